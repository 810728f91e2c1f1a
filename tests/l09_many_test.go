package tests

import (
	"math"
	"slices"
	"testing"

	"loop.example/g00594/impl"
)

// states is the fact that device 0 has the health 2, by this issuer.
func states(issuer, at, until int) impl.Fact {
	return impl.Fact{Kind: 3, Subject: 20, Value: 2, Issuer: issuer, At: at, Until: until}
}

func whoStates(s []impl.Fact, now, age int) []int {
	return impl.WhoState(s, 3, 20, 2, now, age)
}

func isAccepted(s []impl.Fact, now, age, least int) bool {
	return impl.IsAccepted(s, 3, 20, 2, now, age, least)
}

func acceptedUntil(s []impl.Fact, now, age, least int) int {
	return impl.AcceptedUntil(s, 3, 20, 2, now, age, least)
}

// diary holds, for each issuer, the times at which it states what is asked.
type diary [10]map[int]bool

// diaryOf takes valid facts of what is asked; it goes through the times of each one, until it ends or is too old.
func diaryOf(facts []impl.Fact, age int) diary {
	var d diary
	for i := range d {
		d[i] = map[int]bool{}
	}
	for _, f := range facts {
		for now, old := f.At, 0; now <= f.Until && old <= age; now, old = now+1, old+1 {
			d[f.Issuer][now] = true
		}
	}
	return d
}

func (d diary) who(now int) []int {
	who := []int{}
	for issuer, times := range d {
		if times[now] {
			who = append(who, issuer)
		}
	}
	return who
}

func (d diary) acceptedUntil(now, least int) int {
	if !isOneOfTheTimes(now) || len(d.who(now)) < least {
		return -1
	}
	if least <= 0 {
		return maxTime
	}
	for now < maxTime && len(d.who(now+1)) >= least {
		now++
	}
	return now
}

// checkAgainstDiary asks at one time, for every least that can matter and those around them.
func checkAgainstDiary(t *testing.T, s []impl.Fact, d diary, now, age int) {
	t.Helper()
	who := d.who(now)
	if got := whoStates(s, now, age); !slices.Equal(got, who) {
		t.Errorf("WhoState of %v at %d, age %d = %v, want %v", s, now, age, got, who)
	}
	for least := -1; least <= len(who)+2; least++ {
		if got := isAccepted(s, now, age, least); got != (len(who) >= least) {
			t.Errorf("IsAccepted of %v at %d, age %d, least %d = %v", s, now, age, least, got)
		}
		want := d.acceptedUntil(now, least)
		if got := acceptedUntil(s, now, age, least); got != want {
			t.Errorf("AcceptedUntil of %v at %d, age %d, least %d = %d, want %d", s, now, age, least, got, want)
		}
	}
}

// agesAround holds ages in and around their range, and those at the ends of the integers.
func agesAround() []int {
	return []int{-2, -1, 0, 1, 2, 5, 20, maxTime - 1, maxTime, maxTime + 1, math.MinInt, math.MaxInt}
}

// threeWhoAgree holds facts that begin at 5, 6 and 7, and end at 12, 11 and 10.
func threeWhoAgree() []impl.Fact {
	return []impl.Fact{states(0, 5, 12), states(1, 6, 11), states(2, 7, 10)}
}

func TestWhoState(t *testing.T) {
	s := threeWhoAgree()
	for _, c := range []struct {
		now, age int
		want     []int
	}{
		{4, 100, nil},
		{5, 100, []int{0}},
		{6, 100, []int{0, 1}},
		{7, 100, []int{0, 1, 2}},
		{8, 100, []int{0, 1, 2}},
		{10, 100, []int{0, 1, 2}},
		{11, 100, []int{0, 1}},
		{12, 100, []int{0}},
		{13, 100, nil},
		{8, 3, []int{0, 1, 2}},
		{9, 3, []int{1, 2}},
		{10, 3, []int{2}},
		{11, 3, nil},
		{7, 0, []int{2}},
		{7, 1, []int{1, 2}},
		{7, 2, []int{0, 1, 2}},
		{8, 0, nil},
		{7, -1, nil},
		{7, math.MinInt, nil},
		{7, math.MaxInt, []int{0, 1, 2}},
		{-1, math.MaxInt, nil},
		{0, 100, nil},
		{maxTime, maxTime, nil},
		{maxTime + 1, math.MaxInt, nil},
		{math.MinInt, math.MaxInt, nil},
		{math.MaxInt, math.MaxInt, nil},
	} {
		if got := whoStates(s, c.now, c.age); !slices.Equal(got, c.want) {
			t.Errorf("WhoState at %d, age %d = %v, want %v", c.now, c.age, got, c.want)
		}
	}
}

func TestWhoStateOfAnyList(t *testing.T) {
	f, g, h := states(2, 0, 20), states(5, 0, 20), states(9, 0, 20)
	other := impl.Fact{Kind: 3, Subject: 20, Value: 3, Issuer: 7, At: 0, Until: 20}
	for name, c := range map[string]struct {
		s    []impl.Fact
		want []int
	}{
		"nil":                  {nil, nil},
		"empty":                {[]impl.Fact{}, nil},
		"one":                  {[]impl.Fact{f}, []int{2}},
		"another one":          {[]impl.Fact{other}, nil},
		"the issuer 0":         {[]impl.Fact{states(0, 0, 20)}, []int{0}},
		"in order":             {[]impl.Fact{f, g, h}, []int{2, 5, 9}},
		"out of order":         {[]impl.Fact{g, h, f}, []int{2, 5, 9}},
		"from the last one":    {[]impl.Fact{h, g, f}, []int{2, 5, 9}},
		"behind another one":   {[]impl.Fact{other, f, g}, []int{2, 5}},
		"around another one":   {[]impl.Fact{g, other, f}, []int{2, 5}},
		"one twice":            {[]impl.Fact{f, f}, []int{2}},
		"twice, apart":         {[]impl.Fact{f, g, f}, []int{2, 5}},
		"all twice":            {[]impl.Fact{h, f, h, f}, []int{2, 9}},
		"many times":           {slices.Repeat([]impl.Fact{g, f}, 100), []int{2, 5}},
		"the zero fact":        {[]impl.Fact{{}}, nil},
		"not valid, in front":  {[]impl.Fact{timed(h, 5, 4), f, g}, []int{2, 5}},
		"not valid, between":   {[]impl.Fact{f, timed(h, 0, maxTime+1), g}, []int{2, 5}},
		"not valid, behind":    {[]impl.Fact{f, g, timed(h, -1, 20)}, []int{2, 5}},
		"issuers that are not": {[]impl.Fact{states(-1, 0, 20), f, states(10, 0, 20), states(math.MaxInt, 0, 20)}, []int{2}},
		"valid and not valid":  {[]impl.Fact{timed(f, 5, 4), f, timed(f, -1, 20)}, []int{2}},
		"some past":            {[]impl.Fact{timed(f, 0, 4), g, timed(h, 6, 20)}, []int{5}},
	} {
		if got := whoStates(c.s, 5, 10); !slices.Equal(got, c.want) {
			t.Errorf("%s: WhoState = %v, want %v", name, got, c.want)
		}
		for least := -1; least <= 4; least++ {
			if got := isAccepted(c.s, 5, 10, least); got != (len(c.want) >= least) {
				t.Errorf("%s: IsAccepted with the least %d = %v", name, least, got)
			}
		}
	}
}

func TestIssuersInEveryOrder(t *testing.T) {
	for _, order := range orders([]int{0, 3, 4, 8, 9}) {
		var s []impl.Fact
		for i, issuer := range order {
			s = append(s, states(issuer, i, 10+i))
		}
		if got := whoStates(s, 8, 10); !slices.Equal(got, []int{0, 3, 4, 8, 9}) {
			t.Errorf("in the order %v, WhoState = %v", order, got)
		}
		if got := acceptedUntil(s, 8, maxTime, 3); got != 12 {
			t.Errorf("in the order %v, AcceptedUntil = %d", order, got)
		}
	}
}

// Every set of the ten issuers, stated from the last one to the first one and twice.
func TestEverySetOfIssuers(t *testing.T) {
	for set := range 1 << 10 {
		var s []impl.Fact
		want := []int{}
		for issuer := 9; issuer >= 0; issuer-- {
			if set>>issuer&1 == 1 {
				s = append(s, states(issuer, 3, 9), states(issuer, 2, 8))
				want = append([]int{issuer}, want...)
			}
		}
		if got := whoStates(s, 5, 10); !slices.Equal(got, want) {
			t.Errorf("WhoState = %v, want %v", got, want)
		}
		n := len(want)
		if !isAccepted(s, 5, 10, n) || isAccepted(s, 5, 10, n+1) {
			t.Errorf("of %d, %d are enough: %v, %d: %v", n, n, isAccepted(s, 5, 10, n), n+1, isAccepted(s, 5, 10, n+1))
		}
	}
}

// Facts of one issuer count once, whatever their times are, and each of them counts.
func TestFactsOfOneIssuerThatDifferInTheirTimes(t *testing.T) {
	s := []impl.Fact{states(4, 2, 6), states(4, 2, 8), states(4, 4, 6), states(4, 5, 5)}
	for now := -1; now <= 10; now++ {
		for age := -1; age <= 8; age++ {
			checkAgainstDiary(t, s, diaryOf(s, age), now, age)
		}
	}
	if got := whoStates(s, 5, 10); !slices.Equal(got, []int{4}) {
		t.Errorf("WhoState = %v", got)
	}
	if isAccepted(s, 5, 10, 2) || !isAccepted(s, 5, 10, 1) {
		t.Error("one issuer is counted more than once, or not at all")
	}
}

// Each listed claim is asked for among all of them: its two issuers state it, and no others.
func TestWhatIsAskedForIsOneClaimAmongMany(t *testing.T) {
	s := listedClaims()
	for _, f := range s {
		if got := impl.WhoState(s, f.Kind, f.Subject, f.Value, 150, 50); !slices.Equal(got, []int{0, 9}) {
			t.Errorf("WhoState for %v = %v", f, got)
		}
		if got := impl.AcceptedUntil(s, f.Kind, f.Subject, f.Value, 150, 70, 2); got != 170 {
			t.Errorf("AcceptedUntil for %v = %d", f, got)
		}
		alone := []impl.Fact{f}
		for _, g := range s {
			isTheSame := f.Kind == g.Kind && f.Subject == g.Subject && f.Value == g.Value
			if got := impl.IsAccepted(alone, g.Kind, g.Subject, g.Value, 150, 50, 1); got != isTheSame {
				t.Errorf("by %v, %v is accepted: %v", f, g, got)
			}
		}
	}
}

// Facts of another kind, subject or value only, with the asked ones and without them.
func TestFactsThatDifferFromWhatIsAsked(t *testing.T) {
	for _, f := range append(someFacts(), listedClaims()...) {
		f = timed(f, 3, 30)
		if got := impl.WhoState([]impl.Fact{f}, f.Kind, f.Subject, f.Value, 5, 2); !slices.Equal(got, []int{f.Issuer}) {
			t.Errorf("WhoState of %v = %v", f, got)
		}
		for _, d := range []int{-10, -2, -1, 1, 2, 10, 1 << 32, math.MinInt} {
			for part, g := range changedInOnePart(f, d)[:3] {
				g.Issuer = 5
				until := timed(g, 3, 40)
				if got := impl.WhoState([]impl.Fact{until, f, g}, f.Kind, f.Subject, f.Value, 5, 2); !slices.Equal(got, []int{f.Issuer}) {
					t.Errorf("with part %d changed to %v, WhoState = %v", part, g, got)
				}
				if impl.IsAccepted([]impl.Fact{g}, f.Kind, f.Subject, f.Value, 5, 2, 1) {
					t.Errorf("by %v, %v is accepted", g, f)
				}
				if got := impl.AcceptedUntil([]impl.Fact{until, f, timed(g, 3, 9)}, f.Kind, f.Subject, f.Value, 5, 100, 1); got != 30 {
					t.Errorf("with %v, %v is accepted until %d", g, f, got)
				}
			}
		}
	}
}

// The facts stay as they are, and another kind, subject or value is asked for.
func TestOtherQuestionsThanWhatIsStated(t *testing.T) {
	for _, f := range append(someFacts(), listedClaims()...) {
		f = timed(f, 3, 30)
		s := []impl.Fact{f, f}
		for _, d := range []int{-10, -3, -2, -1, 1, 2, 3, 10, 1 << 32, math.MinInt} {
			for _, q := range changedInOnePart(f, d)[:3] {
				if got := impl.WhoState(s, q.Kind, q.Subject, q.Value, 5, 2); len(got) != 0 {
					t.Errorf("by %v, %v is stated by %v", f, q, got)
				}
				if impl.IsAccepted(s, q.Kind, q.Subject, q.Value, 5, 2, 1) || !impl.IsAccepted(s, q.Kind, q.Subject, q.Value, 5, 2, 0) {
					t.Errorf("by %v, %v is accepted, or is not with the least 0", f, q)
				}
				if got := impl.AcceptedUntil(s, q.Kind, q.Subject, q.Value, 5, 2, 1); got != -1 {
					t.Errorf("by %v, %v is accepted until %d", f, q, got)
				}
			}
		}
	}
}

// A fact that is not valid states nothing, also for the one who asks for just this.
func TestWhatIsNoFactStatesNothing(t *testing.T) {
	good := impl.Fact{Kind: 1, Subject: 10, Value: 3, Issuer: 6, At: 0, Until: 30}
	for _, f := range noFacts() {
		s := []impl.Fact{f, good, f}
		for now := -1; now <= 21; now++ {
			for _, age := range []int{0, 20, maxTime, math.MaxInt} {
				if got := impl.WhoState([]impl.Fact{f, f}, f.Kind, f.Subject, f.Value, now, age); len(got) != 0 {
					t.Errorf("WhoState of %v at %d = %v", f, now, got)
				}
				if got := impl.AcceptedUntil([]impl.Fact{f, f}, f.Kind, f.Subject, f.Value, now, age, 1); got != -1 {
					t.Errorf("AcceptedUntil of %v at %d = %d", f, now, got)
				}
				want := diaryOf([]impl.Fact{good}, age)
				if got := impl.WhoState(s, 1, 10, 3, now, age); !slices.Equal(got, want.who(now)) {
					t.Errorf("with %v at %d, age %d, WhoState = %v", f, now, age, got)
				}
				if got := impl.AcceptedUntil(s, 1, 10, 3, now, age, 1); got != want.acceptedUntil(now, 1) {
					t.Errorf("with %v at %d, age %d, AcceptedUntil = %d", f, now, age, got)
				}
			}
		}
	}
}

func TestIsAccepted(t *testing.T) {
	s := threeWhoAgree()
	for _, c := range []struct {
		now, age, least int
		want            bool
	}{
		{8, 3, 3, true},
		{8, 3, 4, false},
		{8, 3, 2, true},
		{8, 3, 1, true},
		{8, 3, 0, true},
		{8, 3, -1, true},
		{9, 3, 3, false},
		{9, 3, 2, true},
		{10, 3, 2, false},
		{10, 3, 1, true},
		{11, 3, 1, false},
		{11, 3, 0, true},
		{4, 100, 1, false},
		{4, 100, 0, true},
		{5, 100, 1, true},
		{5, 100, 2, false},
		{10, 100, 3, true},
		{11, 100, 3, false},
		{12, 100, 1, true},
		{13, 100, 1, false},
		{7, -1, 1, false},
		{7, -1, 0, true},
		{7, 0, 1, true},
		{7, 0, 2, false},
		{7, math.MaxInt, 3, true},
		{7, math.MaxInt, 4, false},
		{7, math.MinInt, 1, false},
		{7, 100, math.MaxInt, false},
		{7, 100, math.MinInt, true},
		{-1, 100, 1, false},
		{-1, 100, 0, true},
		{-1, 100, -1, true},
		{maxTime + 1, 100, 1, false},
		{maxTime + 1, 100, 0, true},
		{math.MinInt, math.MaxInt, 1, false},
		{math.MaxInt, math.MaxInt, 0, true},
	} {
		if got := isAccepted(s, c.now, c.age, c.least); got != c.want {
			t.Errorf("IsAccepted at %d, age %d, least %d = %v", c.now, c.age, c.least, got)
		}
	}
}

func TestAcceptedUntil(t *testing.T) {
	s := threeWhoAgree()
	for _, c := range []struct {
		now, age, least int
		want            int
	}{
		{8, 3, 3, 8},
		{8, 3, 2, 9},
		{8, 3, 1, 10},
		{8, 20, 3, 10},
		{8, 20, 2, 11},
		{8, 20, 1, 12},
		{8, 3, 4, -1},
		{8, 20, 4, -1},
		{8, 3, 0, maxTime},
		{8, 3, -1, maxTime},
		{5, 20, 1, 12},
		{5, 20, 2, -1},
		{6, 20, 2, 11},
		{7, 20, 3, 10},
		{4, 20, 1, -1},
		{5, 0, 1, 7},
		{6, 0, 1, 7},
		{7, 0, 1, 7},
		{8, 0, 1, -1},
		{5, 1, 1, 8},
		{6, 1, 2, 7},
		{5, 4, 1, 10},
		{7, 4, 3, 9},
		{7, 5, 3, 10},
		{7, 6, 2, 11},
		{12, 20, 1, 12},
		{13, 20, 1, -1},
		{10, 20, 3, 10},
		{11, 20, 3, -1},
		{8, -1, 1, -1},
		{8, -1, 0, maxTime},
		{8, maxTime, 1, 12},
		{8, maxTime + 1, 1, 12},
		{8, math.MaxInt, 3, 10},
		{8, math.MinInt, 1, -1},
		{8, 20, math.MaxInt, -1},
		{8, 20, math.MinInt, maxTime},
		{-1, 20, 1, -1},
		{-1, 20, 0, -1},
		{-1, 20, -1, -1},
		{0, 20, 0, maxTime},
		{0, 20, 1, -1},
		{maxTime, 20, 0, maxTime},
		{maxTime, 20, 1, -1},
		{maxTime + 1, 20, 0, -1},
		{maxTime + 1, 20, -1, -1},
		{math.MinInt, math.MaxInt, math.MinInt, -1},
		{math.MaxInt, math.MaxInt, math.MinInt, -1},
	} {
		if got := acceptedUntil(s, c.now, c.age, c.least); got != c.want {
			t.Errorf("AcceptedUntil at %d, age %d, least %d = %d, want %d", c.now, c.age, c.least, got, c.want)
		}
	}
}

// What ends on one day is lost on the same day, whether by its Until or by its age.
func TestFactsThatEndOnTheSameDay(t *testing.T) {
	for name, c := range map[string]struct {
		s     []impl.Fact
		age   int
		until []int // with the least 1, 2, 3 ..
	}{
		"by their Until":               {[]impl.Fact{states(0, 1, 9), states(1, 2, 9), states(2, 3, 9)}, 100, []int{9, 9, 9}},
		"by their age":                 {[]impl.Fact{states(0, 3, 50), states(1, 3, 60), states(2, 3, 70)}, 6, []int{9, 9, 9}},
		"one by each":                  {[]impl.Fact{states(0, 4, 9), states(1, 3, 20)}, 6, []int{9, 9}},
		"one by each, turned":          {[]impl.Fact{states(1, 3, 20), states(0, 4, 9)}, 6, []int{9, 9}},
		"one by both":                  {[]impl.Fact{states(0, 3, 9), states(1, 3, 20), states(2, 4, 9)}, 6, []int{9, 9, 9}},
		"two of three by Until":        {[]impl.Fact{states(0, 1, 9), states(1, 2, 9), states(2, 3, 12)}, 100, []int{12, 9, 9}},
		"two of three by their age":    {[]impl.Fact{states(0, 3, 50), states(1, 3, 60), states(2, 5, 70)}, 6, []int{11, 9, 9}},
		"two by each, one later":       {[]impl.Fact{states(0, 4, 9), states(1, 3, 20), states(2, 5, 30)}, 6, []int{11, 9, 9}},
		"one earlier":                  {[]impl.Fact{states(0, 5, 7), states(1, 4, 9), states(2, 3, 20)}, 6, []int{9, 9, 7}},
		"twice the same day":           {[]impl.Fact{states(0, 0, 7), states(1, 1, 7), states(2, 2, 9), states(3, 3, 9)}, 100, []int{9, 9, 7, 7}},
		"one issuer by each":           {[]impl.Fact{states(0, 4, 9), states(0, 3, 20)}, 6, []int{9, -1}},
		"one issuer later":             {[]impl.Fact{states(0, 1, 9), states(0, 2, 12), states(1, 3, 9)}, 100, []int{12, 9}},
		"two end as one begins":        {[]impl.Fact{states(0, 1, 9), states(1, 1, 9), states(2, 10, 12)}, 100, []int{12, 9}},
		"two end as two begin":         {[]impl.Fact{states(0, 1, 9), states(1, 1, 9), states(2, 10, 12), states(3, 10, 13)}, 100, []int{13, 12}},
		"two end as two begin, by age": {[]impl.Fact{states(0, 3, 50), states(1, 3, 9), states(2, 10, 60), states(3, 10, 13)}, 6, []int{16, 13}},
		"two are met by one that ends": {[]impl.Fact{states(0, 1, 9), states(1, 1, 9), states(2, 9, 9)}, 100, []int{9, 9, -1}},
		"all on this day":              {[]impl.Fact{states(0, 5, 5), states(1, 5, 5), states(2, 5, 50)}, 0, []int{5, 5, 5}},
		"all at the last time":         {[]impl.Fact{states(0, 0, maxTime), states(1, 1, maxTime), states(2, 5, maxTime)}, maxTime, []int{maxTime, maxTime, maxTime}},
		"at the last time by each":     {[]impl.Fact{states(0, 0, maxTime), states(1, 1, maxTime)}, maxTime - 1, []int{maxTime, maxTime - 1}},
		"age beyond the last time":     {[]impl.Fact{states(0, 0, maxTime), states(1, 1, 9)}, maxTime + 1, []int{maxTime, 9}},
	} {
		if got := diaryOf(c.s, c.age).acceptedUntil(5, 1); got != c.until[0] {
			t.Fatalf("%s: the diary says %d", name, got)
		}
		for i, want := range c.until {
			if got := acceptedUntil(c.s, 5, c.age, i+1); got != want {
				t.Errorf("%s: AcceptedUntil with the least %d = %d, want %d", name, i+1, got, want)
			}
		}
		if got := acceptedUntil(c.s, 5, c.age, len(c.s)+1); got != -1 {
			t.Errorf("%s: AcceptedUntil with more than there are = %d", name, got)
		}
	}
}

// A second fact goes on with what a first one stated, or does not.
func TestFactsThatFollowOneAnother(t *testing.T) {
	first := states(4, 3, 8)
	stays := states(6, 0, 100)
	for name, c := range map[string]struct {
		second impl.Fact
		age    int
		want   int
	}{
		"it begins as the first ends":               {states(4, 8, 12), 100, 12},
		"it begins on the next day":                 {states(4, 9, 12), 100, 12},
		"a day is between":                          {states(4, 10, 12), 100, 8},
		"two days are between":                      {states(4, 11, 12), 100, 8},
		"it begins before":                          {states(4, 6, 12), 100, 12},
		"it is within the first":                    {states(4, 6, 7), 100, 8},
		"it is the first again":                     {states(4, 3, 8), 100, 8},
		"it begins on the next day, and ends there": {states(4, 9, 9), 100, 9},
		"it begins as the first is too old":         {states(4, 6, 12), 3, 9},
		"it begins the day after":                   {states(4, 7, 12), 3, 10},
		"it begins two days after":                  {states(4, 8, 12), 3, 6},
		"it is too old first":                       {states(4, 2, 12), 3, 6},
		"it ends by its age":                        {states(4, 8, 100), 6, 14},
		"another issuer begins as the first ends":   {states(2, 8, 12), 100, 12},
		"another issuer begins on the next day":     {states(2, 9, 12), 100, 12},
		"another issuer, with a day between":        {states(2, 10, 12), 100, 8},
		"another issuer, until the last time":       {states(2, 9, maxTime), maxTime, maxTime},
		"it is of another value":                    {impl.Fact{Kind: 3, Subject: 20, Value: 3, Issuer: 4, At: 8, Until: 12}, 100, 8},
		"it is not valid":                           {states(4, 8, maxTime+1), 100, 8},
		"it is of no issuer":                        {states(10, 8, 12), 100, 8},
	} {
		for _, s := range [][]impl.Fact{{first, c.second}, {c.second, first}, {c.second, first, c.second}} {
			if got := acceptedUntil(s, 5, c.age, 1); got != c.want {
				t.Errorf("%s: AcceptedUntil = %d, want %d", name, got, c.want)
			}
		}
		// The one who stays is too old for the lesser ages.
		if s := []impl.Fact{stays, c.second, first}; c.age == 100 && acceptedUntil(s, 5, c.age, 2) != c.want {
			t.Errorf("%s: AcceptedUntil with one who stays = %d, want %d", name, acceptedUntil(s, 5, c.age, 2), c.want)
		}
	}
}

// Many facts, each of a day: there is no gap as long as each day has one.
func TestAChainOfDays(t *testing.T) {
	var s []impl.Fact
	for day := 40; day >= 0; day-- {
		if day != 30 {
			s = append(s, states(day*7%10, day, day))
		}
	}
	for now := -1; now <= 41; now++ {
		want := -1
		switch {
		case now >= 0 && now < 30:
			want = 29
		case now > 30 && now <= 40:
			want = 40
		}
		for _, age := range []int{0, 1, 100, math.MaxInt} {
			if got := acceptedUntil(s, now, age, 1); got != want {
				t.Errorf("AcceptedUntil at %d, age %d = %d, want %d", now, age, got, want)
			}
		}
	}
}

// What is accepted again after a gap is asked for in it and behind it.
func TestWhatIsAcceptedAgainLater(t *testing.T) {
	s := []impl.Fact{states(0, 2, 4), states(1, 2, 9), states(0, 6, 7), states(2, 9, maxTime)}
	for _, c := range []struct{ now, least, want int }{
		{1, 1, -1},
		{2, 1, maxTime},
		{2, 2, 4},
		{3, 2, 4},
		{4, 2, 4},
		{5, 2, -1},
		{5, 1, maxTime},
		{6, 2, 7},
		{7, 2, 7},
		{8, 2, -1},
		{9, 2, 9},
		{9, 3, -1},
		{10, 2, -1},
		{10, 1, maxTime},
		{maxTime, 1, maxTime},
		{maxTime, 2, -1},
	} {
		if got := acceptedUntil(s, c.now, maxTime, c.least); got != c.want {
			t.Errorf("AcceptedUntil at %d, least %d = %d, want %d", c.now, c.least, got, c.want)
		}
	}
}

func TestWhatIsAcceptedUntilTheLastTime(t *testing.T) {
	always := states(0, 0, maxTime)
	for _, c := range []struct {
		s               []impl.Fact
		now, age, least int
		want            int
	}{
		{[]impl.Fact{always}, 0, maxTime, 1, maxTime},
		{[]impl.Fact{always}, 0, maxTime - 1, 1, maxTime - 1},
		{[]impl.Fact{always}, 0, maxTime + 1, 1, maxTime},
		{[]impl.Fact{always}, 0, math.MaxInt, 1, maxTime},
		{[]impl.Fact{always}, maxTime, maxTime, 1, maxTime},
		{[]impl.Fact{always}, maxTime, maxTime - 1, 1, -1},
		{[]impl.Fact{timed(always, 0, maxTime-1)}, 0, maxTime, 1, maxTime - 1},
		{[]impl.Fact{timed(always, maxTime, maxTime)}, maxTime, 0, 1, maxTime},
		{[]impl.Fact{timed(always, maxTime, maxTime)}, maxTime - 1, 0, 1, -1},
		{[]impl.Fact{always, timed(always, maxTime, maxTime)}, 0, maxTime - 1, 1, maxTime},
		{[]impl.Fact{always, states(1, maxTime, maxTime)}, 0, maxTime - 1, 1, maxTime},
		{[]impl.Fact{always, states(1, maxTime, maxTime)}, 0, maxTime - 2, 1, maxTime - 2},
		{[]impl.Fact{always, states(1, maxTime, maxTime)}, maxTime, maxTime, 2, maxTime},
		{[]impl.Fact{states(0, 0, 5000), states(1, 5001, maxTime)}, 0, 5000, 1, maxTime},
		{[]impl.Fact{states(0, 0, 5000), states(1, 5002, maxTime)}, 0, 5000, 1, 5000},
		{[]impl.Fact{states(0, 0, 5000), states(1, 5001, maxTime)}, 0, 4999, 1, 4999},
		{[]impl.Fact{states(0, 1, 5000), states(1, 5001, maxTime)}, 1, 4999, 1, maxTime},
		{[]impl.Fact{states(0, 1, 5000), states(1, 5000, maxTime)}, 1, 4999, 1, maxTime - 1},
	} {
		if got := acceptedUntil(c.s, c.now, c.age, c.least); got != c.want {
			t.Errorf("AcceptedUntil of %v at %d, age %d = %d, want %d", c.s, c.now, c.age, got, c.want)
		}
	}
}

func TestWithoutFactsOnlyALeastOfNothingIsAccepted(t *testing.T) {
	lists := [][]impl.Fact{nil, {}, {{}}, {impl.Fact{Kind: 1, Subject: 10, Value: 3, Issuer: 1, At: 0, Until: maxTime}}}
	for _, s := range lists {
		for _, now := range append(noTimes(), timesAtTheEnds()...) {
			for _, age := range agesAround() {
				if got := whoStates(s, now, age); len(got) != 0 {
					t.Errorf("WhoState of %v at %d = %v", s, now, got)
				}
				for _, least := range []int{-1, 0, 1, 2, math.MinInt, math.MaxInt} {
					want := -1
					if least <= 0 && isOneOfTheTimes(now) {
						want = maxTime
					}
					if isAccepted(s, now, age, least) != (least <= 0) || acceptedUntil(s, now, age, least) != want {
						t.Errorf("%v at %d, age %d, least %d: %v, %d", s, now, age, least, isAccepted(s, now, age, least), acceptedUntil(s, now, age, least))
					}
				}
			}
		}
	}
}

func TestWhatIsNoTimeIsNotAccepted(t *testing.T) {
	s := []impl.Fact{states(0, 0, maxTime), states(1, 0, 0), states(2, maxTime, maxTime)}
	for _, now := range noTimes() {
		for _, age := range agesAround() {
			for _, least := range []int{math.MinInt, -1, 0, 1, 2, 3, math.MaxInt} {
				if got := acceptedUntil(s, now, age, least); got != -1 {
					t.Errorf("AcceptedUntil at %d, age %d, least %d = %d", now, age, least, got)
				}
				if got := isAccepted(s, now, age, least); got != (least <= 0) {
					t.Errorf("IsAccepted at %d, age %d, least %d = %v", now, age, least, got)
				}
			}
			if got := whoStates(s, now, age); len(got) != 0 {
				t.Errorf("WhoState at %d, age %d = %v", now, age, got)
			}
		}
	}
}

// The times before, at and behind each At, each Until and the end of each age, for ages in and out of their range.
func TestTimesAroundTheEndsOfFacts(t *testing.T) {
	for _, s := range [][]impl.Fact{
		threeWhoAgree(),
		{states(3, 0, 0), states(1, 0, 1), states(0, 1, 1), states(2, 2, 4)},
		{states(3, 0, maxTime), states(1, 1, maxTime-1), states(2, maxTime-1, maxTime), states(0, maxTime, maxTime)},
		{states(5, 100, 200), states(5, 201, 300), states(7, 200, 201), states(6, 150, 200), states(7, 203, 203)},
	} {
		for _, age := range agesAround() {
			d := diaryOf(s, age)
			for _, f := range s {
				for _, end := range []int{0, f.At, f.Until, min(f.At+min(max(age, 0), maxTime), maxTime), maxTime} {
					for now := end - 1; now <= end+1; now++ {
						checkAgainstDiary(t, s, d, now, age)
					}
				}
			}
		}
	}
}

// Every list of one and of two facts with few times, at both ends of all times.
func TestEveryPairOfFacts(t *testing.T) {
	const most = 4
	for _, from := range []int{0, 500, maxTime - most} {
		var facts []impl.Fact
		for issuer := range 2 {
			for at := from; at <= from+most; at++ {
				for until := at; until <= from+most; until++ {
					facts = append(facts, states(9*issuer, at, until))
				}
			}
		}
		for _, f := range facts {
			for _, g := range facts {
				s := []impl.Fact{f, g}
				for _, age := range []int{0, 1, 2, maxTime + 1} {
					d := diaryOf(s, age)
					for now := from - 1; now <= from+most+1; now++ {
						checkAgainstDiary(t, s, d, now, age)
					}
				}
			}
		}
	}
}

// drawnStatements draws facts of what is asked, of four issuers, and others between them, some of them not valid.
func drawnStatements(seed uint32, count, times int) (all, asked []impl.Fact) {
	draw := func(n int) int {
		seed = seed*1664525 + 1013904223
		return int(seed>>16) % n
	}
	for range count {
		at := draw(times)
		f := states(draw(4)*3, at, at+draw(times/3))
		switch draw(6) {
		case 0:
			f = changedInOnePart(f, 1)[draw(3)]
		case 1:
			f = []impl.Fact{timed(f, at+1, at), timed(f, -1, at), timed(f, at, maxTime+1), states(10, f.At, f.Until)}[draw(4)]
		default:
			asked = append(asked, f)
		}
		all = append(all, f)
	}
	return all, asked
}

func TestDrawnStatements(t *testing.T) {
	for seed := range uint32(120) {
		count := 3 + int(seed)%40
		all, asked := drawnStatements(seed, count, 30)
		for _, age := range []int{-1, 0, 1, 3, 7, 20, math.MaxInt} {
			d := diaryOf(asked, age)
			for now := -1; now <= 42; now++ {
				checkAgainstDiary(t, all, d, now, age)
			}
		}
	}
}

// The span that AcceptedUntil tells is accepted at each of its times, and not behind it.
func TestTheSpanIsAcceptedThroughout(t *testing.T) {
	for seed := range uint32(60) {
		s, _ := drawnStatements(seed+1000, 30, 60)
		for now := 0; now <= 85; now++ {
			for least := 1; least <= 4; least++ {
				last := acceptedUntil(s, now, 12, least)
				if isAccepted(s, now, 12, least) != (last >= now) || last < now && last != -1 {
					t.Errorf("seed %d: at %d, least %d: accepted %v, until %d", seed, now, least, isAccepted(s, now, 12, least), last)
				}
				for between := now; between <= last; between++ {
					if !isAccepted(s, between, 12, least) {
						t.Errorf("seed %d: from %d until %d with the least %d, but not at %d", seed, now, last, least, between)
					}
				}
				if last != -1 && isAccepted(s, last+1, 12, least) {
					t.Errorf("seed %d: from %d until %d with the least %d, and also behind it", seed, now, last, least)
				}
			}
		}
	}
}

// A list of more facts than a store may have, as long as all times.
func TestAListOfManyFacts(t *testing.T) {
	var s []impl.Fact
	for at := 0; at <= maxTime; at += 10 {
		s = append(s, states(at/10%10, at, min(at+19, maxTime)))
	}
	for _, c := range []struct{ now, age, least, want int }{
		{0, 19, 1, maxTime},
		{0, 9, 1, maxTime},
		{0, 8, 1, 8},
		{0, 19, 2, -1},
		{10, 19, 2, maxTime},
		{10, 18, 2, 18},
		{10, 19, 3, -1},
		{9995, maxTime, 2, maxTime},
	} {
		if got := acceptedUntil(s, c.now, c.age, c.least); got != c.want {
			t.Errorf("AcceptedUntil at %d, age %d, least %d = %d, want %d", c.now, c.age, c.least, got, c.want)
		}
	}
}

func TestLastOf(t *testing.T) {
	for _, c := range []struct{ at, until, age, want int }{
		{5, 20, 0, 5},
		{5, 20, 1, 6},
		{5, 20, 14, 19},
		{5, 20, 15, 20},
		{5, 20, 16, 20},
		{5, 20, maxTime, 20},
		{5, 20, maxTime - 5, 20},
		{5, 20, -1, -1},
		{5, 20, maxTime + 1, -1},
		{5, 20, math.MinInt, -1},
		{5, 20, math.MaxInt, -1},
		{5, 5, 0, 5},
		{5, 5, 1, 5},
		{5, 5, -1, -1},
		{0, 0, 0, 0},
		{0, 0, 1, 0},
		{0, 0, -1, -1},
		{0, 0, maxTime, 0},
		{0, maxTime, 0, 0},
		{0, maxTime, 1, 1},
		{0, maxTime, maxTime - 1, maxTime - 1},
		{0, maxTime, maxTime, maxTime},
		{0, maxTime, maxTime + 1, -1},
		{1, maxTime, maxTime - 1, maxTime},
		{1, maxTime, maxTime, maxTime},
		{1, maxTime - 1, maxTime, maxTime - 1},
		{maxTime, maxTime, 0, maxTime},
		{maxTime, maxTime, maxTime, maxTime},
		{maxTime, maxTime, maxTime + 1, -1},
		{5, 4, 3, -1},
		{5, 4, 0, -1},
		{-1, 4, 3, -1},
		{-1, -1, 0, -1},
		{5, maxTime + 1, 3, -1},
		{maxTime + 1, maxTime + 1, 3, -1},
		{math.MinInt, math.MaxInt, 3, -1},
	} {
		for _, f := range append(someFacts(), listedClaims()...) {
			if got := impl.LastOf(timed(f, c.at, c.until), c.age); got != c.want {
				t.Errorf("LastOf(%v, %d) = %d, want %d", timed(f, c.at, c.until), c.age, got, c.want)
			}
		}
	}
	for _, f := range noFacts() {
		for _, age := range agesAround() {
			if got := impl.LastOf(f, age); got != -1 {
				t.Errorf("LastOf(%v, %d) = %d", f, age, got)
			}
		}
	}
}

// Within the range of ages, the last time is the last one at which the fact holds, and AcceptedUntil of the fact alone.
func TestTheLastTimeIsTheLastOneAtWhichAFactHolds(t *testing.T) {
	const most = 6
	for _, from := range []int{0, 700, maxTime - most} {
		for at := from; at <= from+most; at++ {
			for until := at; until <= from+most; until++ {
				f := states(3, at, until)
				for age := 0; age <= most+1; age++ {
					want := -1
					for now := from; now <= from+most; now++ {
						if impl.HoldsAt(f, now, age) {
							want = now
						}
					}
					if got := impl.LastOf(f, age); got != want {
						t.Errorf("LastOf(%v, %d) = %d, want %d", f, age, got, want)
					}
					if got := acceptedUntil([]impl.Fact{f}, at, age, 1); got != want {
						t.Errorf("AcceptedUntil of %v, age %d = %d, want %d", f, age, got, want)
					}
				}
			}
		}
	}
}

func TestFactsThatWereAskedAreAsTheyWere(t *testing.T) {
	drawn, _ := drawnStatements(7, 40, 20)
	lists := append(noStores(), nil, threeWhoAgree(), drawn, noFacts(), listedClaims()[:maxFacts])
	for _, list := range lists {
		s := sparedFacts(list)
		for _, now := range []int{-1, 0, 8, 150, maxTime} {
			for _, age := range []int{-1, 0, 3, 100, maxTime + 1} {
				for _, f := range append(slices.Clone(list), states(0, 0, 0)) {
					who := impl.WhoState(s, f.Kind, f.Subject, f.Value, now, age)
					spoilInts(who)
					impl.IsAccepted(s, f.Kind, f.Subject, f.Value, now, age, 1)
					impl.AcceptedUntil(s, f.Kind, f.Subject, f.Value, now, age, 1)
					impl.LastOf(f, age)
				}
			}
		}
		if !areFactsUntouched(s, list) {
			t.Errorf("%v was changed", list)
		}
	}
}

func TestWhoStateIsNewEachTime(t *testing.T) {
	s := threeWhoAgree()
	first := whoStates(s, 8, 3)
	second := whoStates(s, 8, 3)
	spoilInts(first)
	for _, got := range [][]int{second, whoStates(s, 8, 3)} {
		if !slices.Equal(got, []int{0, 1, 2}) {
			t.Errorf("WhoState has become %v", got)
		}
	}
}
