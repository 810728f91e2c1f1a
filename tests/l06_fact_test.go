package tests

import (
	"math"
	"strconv"
	"testing"

	"loop.example/g00594/impl"
)

// factForm holds what a fact of a kind may be about, from the first to the last one.
type factForm struct {
	kind, firstSubject, lastSubject, firstValue, lastValue int
	name                                                   string
}

func factForms() []factForm {
	return []factForm{
		{1, 10, 19, 0, 5, "role"},
		{2, 10, 19, 20, 29, "owns"},
		{3, 20, 29, 0, 3, "health"},
		{4, 30, 39, 0, 3, "build"},
	}
}

// someFacts holds a valid fact of each kind.
func someFacts() []impl.Fact {
	return []impl.Fact{
		{Kind: 1, Subject: 10, Value: 3, Issuer: 1, At: 5, Until: 20},
		{Kind: 2, Subject: 19, Value: 21, Issuer: 0, At: 5, Until: 5},
		{Kind: 3, Subject: 27, Value: 0, Issuer: 9, At: 0, Until: maxTime},
		{Kind: 4, Subject: 33, Value: 2, Issuer: 4, At: 7, Until: 8},
	}
}

// noFacts holds facts that are not valid, most of them by one part only.
func noFacts() []impl.Fact {
	return []impl.Fact{
		{},
		{Subject: 10},
		{Kind: 0, Subject: 10, Value: 3, Issuer: 1, At: 5, Until: 20},
		{Kind: 5, Subject: 10, Value: 3, Issuer: 1, At: 5, Until: 20},
		{Kind: 5, Subject: 40, Value: 3, Issuer: 1, At: 5, Until: 20},
		{Kind: -1, Subject: 10, Value: 3, Issuer: 1, At: 5, Until: 20},
		{Kind: 1, Subject: 9, Value: 3, Issuer: 1, At: 5, Until: 20},
		{Kind: 1, Subject: 20, Value: 3, Issuer: 1, At: 5, Until: 20},
		{Kind: 1, Subject: 10, Value: -1, Issuer: 1, At: 5, Until: 20},
		{Kind: 1, Subject: 10, Value: 6, Issuer: 1, At: 5, Until: 20},
		{Kind: 2, Subject: 20, Value: 21, Issuer: 1, At: 5, Until: 20},
		{Kind: 2, Subject: 10, Value: 19, Issuer: 1, At: 5, Until: 20},
		{Kind: 2, Subject: 10, Value: 30, Issuer: 1, At: 5, Until: 20},
		{Kind: 2, Subject: 10, Value: 1, Issuer: 1, At: 5, Until: 20},
		{Kind: 3, Subject: 19, Value: 1, Issuer: 1, At: 5, Until: 20},
		{Kind: 3, Subject: 30, Value: 1, Issuer: 1, At: 5, Until: 20},
		{Kind: 3, Subject: 20, Value: -1, Issuer: 1, At: 5, Until: 20},
		{Kind: 3, Subject: 20, Value: 4, Issuer: 1, At: 5, Until: 20},
		{Kind: 4, Subject: 29, Value: 1, Issuer: 1, At: 5, Until: 20},
		{Kind: 4, Subject: 40, Value: 1, Issuer: 1, At: 5, Until: 20},
		{Kind: 4, Subject: 30, Value: -1, Issuer: 1, At: 5, Until: 20},
		{Kind: 4, Subject: 30, Value: 4, Issuer: 1, At: 5, Until: 20},
		{Kind: 1, Subject: 10, Value: 3, Issuer: -1, At: 5, Until: 20},
		{Kind: 1, Subject: 10, Value: 3, Issuer: 10, At: 5, Until: 20},
		{Kind: 1, Subject: 10, Value: 3, Issuer: 1, At: -1, Until: 20},
		{Kind: 1, Subject: 10, Value: 3, Issuer: 1, At: 5, Until: maxTime + 1},
		{Kind: 1, Subject: 10, Value: 3, Issuer: 1, At: 5, Until: 4},
		{Kind: 1, Subject: 10, Value: 3, Issuer: 1, At: maxTime + 1, Until: maxTime + 1},
		{Kind: 1, Subject: 10, Value: 3, Issuer: 1, At: -1, Until: -1},
		{Kind: math.MinInt, Subject: 10, Value: 3, Issuer: 1, At: 5, Until: 20},
		{Kind: math.MaxInt, Subject: 10, Value: 3, Issuer: 1, At: 5, Until: 20},
		{Kind: 1, Subject: math.MinInt, Value: 3, Issuer: 1, At: 5, Until: 20},
		{Kind: 1, Subject: math.MaxInt, Value: 3, Issuer: 1, At: 5, Until: 20},
		{Kind: 1, Subject: 10, Value: math.MinInt, Issuer: 1, At: 5, Until: 20},
		{Kind: 1, Subject: 10, Value: math.MaxInt, Issuer: 1, At: 5, Until: 20},
		{Kind: 1, Subject: 10, Value: 3, Issuer: math.MinInt, At: 5, Until: 20},
		{Kind: 1, Subject: 10, Value: 3, Issuer: math.MaxInt, At: 5, Until: 20},
		{Kind: 1, Subject: 10, Value: 3, Issuer: 1, At: math.MinInt, Until: 20},
		{Kind: 1, Subject: 10, Value: 3, Issuer: 1, At: 5, Until: math.MaxInt},
		{Kind: 1, Subject: 10, Value: 3, Issuer: 1, At: math.MinInt, Until: math.MaxInt},
		{Kind: 1, Subject: 10, Value: 3, Issuer: 1, At: math.MaxInt, Until: math.MinInt},
	}
}

// changedInOnePart holds f once for each of its six parts, in their order, with that part changed by d.
func changedInOnePart(f impl.Fact, d int) []impl.Fact {
	l := []impl.Fact{f, f, f, f, f, f}
	l[0].Kind += d
	l[1].Subject += d
	l[2].Value += d
	l[3].Issuer += d
	l[4].At += d
	l[5].Until += d
	return l
}

// textOfValue is the text of a fact's value, if the fact is valid.
func textOfValue(kind, value int) string {
	if kind == 2 {
		return nameTexts()[value-10]
	}
	return strconv.Itoa(value)
}

func TestKindsOfFacts(t *testing.T) {
	if impl.FcRole != 1 || impl.FcOwns != 2 || impl.FcHealth != 3 || impl.FcBuild != 4 {
		t.Error(impl.FcRole, impl.FcOwns, impl.FcHealth, impl.FcBuild)
	}
	if impl.MaxRole != 5 || impl.MaxLevel != 3 {
		t.Error(impl.MaxRole, impl.MaxLevel)
	}
}

func TestFactName(t *testing.T) {
	for _, c := range []struct {
		kind int
		want string
	}{
		{1, "role"},
		{2, "owns"},
		{3, "health"},
		{4, "build"},
		{0, ""},
		{5, ""},
		{-1, ""},
		{-4, ""},
		{10, ""},
		{1<<32 + 1, ""},
		{math.MinInt, ""},
		{math.MinInt + 1, ""},
		{math.MaxInt, ""},
	} {
		if got := impl.FactName(c.kind); got != c.want {
			t.Errorf("FactName(%d) = %q, want %q", c.kind, got, c.want)
		}
	}
}

func TestIsFact(t *testing.T) {
	for _, f := range someFacts() {
		if !impl.IsFact(f) {
			t.Errorf("%v is none", f)
		}
	}
	for _, f := range noFacts() {
		if impl.IsFact(f) {
			t.Errorf("%v is a fact", f)
		}
	}
}

// Every kind, subject and value in and around their ranges, each with the text that it has.
func TestEveryFormOfAFact(t *testing.T) {
	want := map[impl.Fact]string{}
	for _, form := range factForms() {
		for subject := form.firstSubject; subject <= form.lastSubject; subject++ {
			for value := form.firstValue; value <= form.lastValue; value++ {
				f := impl.Fact{Kind: form.kind, Subject: subject, Value: value, Issuer: 9, At: 0, Until: maxTime}
				want[f] = form.name + " " + nameTexts()[subject-10] + " " + textOfValue(form.kind, value) + " 9 0 10000"
			}
		}
	}
	if len(want) != 10*6+10*10+10*4+10*4 {
		t.Fatalf("%d forms", len(want))
	}
	for kind := -2; kind <= 8; kind++ {
		for subject := -30; subject <= 60; subject++ {
			for value := -30; value <= 60; value++ {
				f := impl.Fact{Kind: kind, Subject: subject, Value: value, Issuer: 9, At: 0, Until: maxTime}
				text, isFact := want[f]
				if impl.IsFact(f) != isFact || impl.HoldsAt(f, 0, 0) != isFact || impl.FormatFact(f) != text {
					t.Errorf("%v: a fact %v, holds %v, text %q, want %v, %q", f, impl.IsFact(f), impl.HoldsAt(f, 0, 0), impl.FormatFact(f), isFact, text)
				}
			}
		}
	}
}

func TestIssuersOfFacts(t *testing.T) {
	for _, f := range someFacts() {
		for issuer := -20; issuer <= 30; issuer++ {
			f.Issuer = issuer
			want := issuer >= 0 && issuer <= 9
			if impl.IsFact(f) != want || impl.HoldsAt(f, f.At, 0) != want || (impl.FormatFact(f) != "") != want {
				t.Errorf("%v: a fact %v, holds %v, text %q", f, impl.IsFact(f), impl.HoldsAt(f, f.At, 0), impl.FormatFact(f))
			}
		}
	}
}

func TestTimesOfFacts(t *testing.T) {
	times := append(noTimes(), timesAtTheEnds()...)
	for _, f := range someFacts() {
		for _, at := range times {
			for _, until := range times {
				f.At, f.Until = at, until
				want := isOneOfTheTimes(at) && isOneOfTheTimes(until) && at <= until
				if impl.IsFact(f) != want || (impl.FormatFact(f) != "") != want {
					t.Errorf("%v: a fact %v, text %q", f, impl.IsFact(f), impl.FormatFact(f))
				}
				if impl.HoldsAt(f, at, 0) != want || impl.HoldsAt(f, until, maxTime) != want {
					t.Errorf("%v holds at its start %v, at its end %v", f, impl.HoldsAt(f, at, 0), impl.HoldsAt(f, until, maxTime))
				}
			}
		}
	}
}

func TestHoldsAt(t *testing.T) {
	for _, c := range []struct {
		at, until, now, age int
		want                bool
	}{
		{5, 20, 4, 100, false},
		{5, 20, 4, 0, false},
		{5, 20, 4, -1, false},
		{5, 20, 5, 0, true},
		{5, 20, 5, 1, true},
		{5, 20, 5, -1, false},
		{5, 20, 6, 0, false},
		{5, 20, 6, 1, true},
		{5, 20, 12, 6, false},
		{5, 20, 12, 7, true},
		{5, 20, 12, 8, true},
		{5, 20, 20, 14, false},
		{5, 20, 20, 15, true},
		{5, 20, 20, 16, true},
		{5, 20, 21, 16, false},
		{5, 20, 21, 100, false},
		{5, 20, maxTime, maxTime, false},
		{5, 20, 5, math.MaxInt, true},
		{5, 20, 20, math.MaxInt, true},
		{5, 20, 21, math.MaxInt, false},
		{5, 20, 4, math.MaxInt, false},
		{5, 20, 5, math.MinInt, false},
		{5, 20, -1, math.MaxInt, false},
		{5, 20, math.MinInt, math.MaxInt, false},
		{5, 20, math.MaxInt, math.MaxInt, false},
		{5, 5, 4, 5, false},
		{5, 5, 5, 0, true},
		{5, 5, 5, -1, false},
		{5, 5, 6, 5, false},
		{5, 4, 4, 5, false},
		{5, 4, 5, 5, false},
		{5, 4, 5, 0, false},
		{5, 4, 6, 5, false},
		{0, 0, 0, 0, true},
		{0, 0, 0, -1, false},
		{0, 0, 1, 1, false},
		{0, 0, -1, 1, false},
		{0, maxTime, -1, maxTime, false},
		{0, maxTime, 0, 0, true},
		{0, maxTime, maxTime, maxTime, true},
		{0, maxTime, maxTime, maxTime - 1, false},
		{0, maxTime, maxTime + 1, maxTime + 1, false},
		{maxTime, maxTime, maxTime, 0, true},
		{maxTime, maxTime, maxTime - 1, maxTime, false},
		{maxTime, maxTime, maxTime + 1, maxTime, false},
		{-1, 5, 0, 5, false},
		{-1, 5, -1, 5, false},
		{-1, -1, -1, 0, false},
		{0, maxTime + 1, 0, 0, false},
		{0, maxTime + 1, maxTime, maxTime, false},
		{maxTime + 1, maxTime + 1, maxTime + 1, 0, false},
		{math.MinInt, math.MaxInt, 0, math.MaxInt, false},
	} {
		for _, f := range someFacts() {
			f.At, f.Until = c.at, c.until
			if got := impl.HoldsAt(f, c.now, c.age); got != c.want {
				t.Errorf("HoldsAt(%v, %d, %d) = %v", f, c.now, c.age, got)
			}
		}
	}
}

// What is expected is counted, one unit of time after the other, from the statement to the end.
func TestFactsAtEveryTimeAroundTheirSpan(t *testing.T) {
	const around = 4
	for _, f := range someFacts() {
		for _, at := range []int{0, 1, 2, 5, 500, maxTime - 3, maxTime - 1, maxTime} {
			for until := max(at-around, 0); until <= min(at+around, maxTime); until++ {
				f.At, f.Until = at, until
				holds := map[int]int{}
				for now, age := at, 0; now <= until; now, age = now+1, age+1 {
					holds[now] = age
				}
				for now := at - 2*around; now <= at+2*around; now++ {
					least, isIn := holds[now]
					for age := -2; age <= 2*around; age++ {
						if got := impl.HoldsAt(f, now, age); got != (isIn && age >= least) {
							t.Errorf("HoldsAt(%v, %d, %d) = %v", f, now, age, got)
						}
					}
				}
			}
		}
	}
}

func TestAFactOfAllTimesHoldsByItsAge(t *testing.T) {
	for _, f := range someFacts() {
		f.At, f.Until = 0, maxTime
		for now := 0; now <= maxTime; now++ {
			if !impl.HoldsAt(f, now, now) || !impl.HoldsAt(f, now, now+1) || impl.HoldsAt(f, now, now-1) {
				t.Errorf("%v at %d: %v, %v, %v", f, now, impl.HoldsAt(f, now, now), impl.HoldsAt(f, now, now+1), impl.HoldsAt(f, now, now-1))
			}
		}
	}
}

func TestWhatIsNoFactHoldsAtNoTime(t *testing.T) {
	ages := []int{-1, 0, 1, 20, maxTime, math.MinInt, math.MaxInt}
	for _, f := range noFacts() {
		for _, now := range append(noTimes(), timesAtTheEnds()...) {
			for _, age := range ages {
				if impl.HoldsAt(f, now, age) {
					t.Errorf("HoldsAt(%v, %d, %d) = true", f, now, age)
				}
			}
		}
		for now := -2; now <= 25; now++ {
			if impl.HoldsAt(f, now, math.MaxInt) {
				t.Errorf("%v holds at %d", f, now)
			}
		}
	}
}

func TestEqualFactsAreTheSameClaim(t *testing.T) {
	for _, f := range append(someFacts(), noFacts()...) {
		if !impl.SameClaim(f, f) || impl.FactBefore(f, f) {
			t.Errorf("%v and itself: same %v, before %v", f, impl.SameClaim(f, f), impl.FactBefore(f, f))
		}
	}
}

// The claim and the order are those of any facts, also of those that are not valid.
func TestFactsThatDifferInOnePart(t *testing.T) {
	for _, f := range append(someFacts(), impl.Fact{}, impl.Fact{Kind: -7, Subject: -7, Value: -7, Issuer: -7, At: -7, Until: -7}) {
		for _, d := range []int{1, 2, 10, 1 << 40} {
			for part, g := range changedInOnePart(f, d) {
				inClaim := part < 4
				if impl.SameClaim(f, g) == inClaim || impl.SameClaim(g, f) == inClaim {
					t.Errorf("SameClaim of %v and %v: %v, %v", f, g, impl.SameClaim(f, g), impl.SameClaim(g, f))
				}
				if impl.FactBefore(f, g) != inClaim || impl.FactBefore(g, f) {
					t.Errorf("FactBefore of %v and %v: %v, %v", f, g, impl.FactBefore(f, g), impl.FactBefore(g, f))
				}
			}
		}
	}
}

func TestFactsThatDifferByMoreThanAnInt(t *testing.T) {
	for part, g := range changedInOnePart(impl.Fact{}, math.MaxInt) {
		f := changedInOnePart(impl.Fact{}, math.MinInt)[part]
		inClaim := part < 4
		if impl.FactBefore(f, g) != inClaim || impl.FactBefore(g, f) || impl.SameClaim(f, g) == inClaim {
			t.Errorf("%v and %v: before %v, %v, same %v", f, g, impl.FactBefore(f, g), impl.FactBefore(g, f), impl.SameClaim(f, g))
		}
	}
}

// The facts are listed in their order, so that what is expected is told by their places; each claim has two facts.
func TestTheOrderOfFacts(t *testing.T) {
	var facts []impl.Fact
	for kind := range 3 {
		for subject := range 3 {
			for value := range 3 {
				for issuer := range 3 {
					f := impl.Fact{Kind: kind, Subject: subject, Value: value, Issuer: issuer, At: 9, Until: 3}
					g := f
					g.At, g.Until = 3, 9
					facts = append(facts, f, g)
				}
			}
		}
	}
	for i, f := range facts {
		for j, g := range facts {
			if got := impl.FactBefore(f, g); got != (i/2 < j/2) {
				t.Errorf("FactBefore(%v, %v) = %v", f, g, got)
			}
			if got := impl.SameClaim(f, g); got != (i/2 == j/2) {
				t.Errorf("SameClaim(%v, %v) = %v", f, g, got)
			}
		}
	}
}

func TestFormatFact(t *testing.T) {
	for _, c := range []struct {
		f    impl.Fact
		want string
	}{
		{impl.Fact{Kind: 1, Subject: 10, Value: 3, Issuer: 1, At: 5, Until: 20}, "role p0 3 1 5 20"},
		{impl.Fact{Kind: 1, Subject: 19, Value: 0, Issuer: 0, At: 0, Until: 0}, "role p9 0 0 0 0"},
		{impl.Fact{Kind: 1, Subject: 15, Value: 5, Issuer: 9, At: maxTime, Until: maxTime}, "role p5 5 9 10000 10000"},
		{impl.Fact{Kind: 2, Subject: 10, Value: 21, Issuer: 1, At: 5, Until: 5}, "owns p0 d1 1 5 5"},
		{impl.Fact{Kind: 2, Subject: 19, Value: 20, Issuer: 2, At: 0, Until: maxTime}, "owns p9 d0 2 0 10000"},
		{impl.Fact{Kind: 2, Subject: 11, Value: 29, Issuer: 2, At: 99, Until: 100}, "owns p1 d9 2 99 100"},
		{impl.Fact{Kind: 3, Subject: 27, Value: 0, Issuer: 9, At: 1, Until: 2}, "health d7 0 9 1 2"},
		{impl.Fact{Kind: 3, Subject: 20, Value: 3, Issuer: 0, At: 10, Until: 1000}, "health d0 3 0 10 1000"},
		{impl.Fact{Kind: 4, Subject: 33, Value: 2, Issuer: 4, At: 7, Until: 8}, "build g3 2 4 7 8"},
		{impl.Fact{Kind: 4, Subject: 39, Value: 3, Issuer: 3, At: 0, Until: 9999}, "build g9 3 3 0 9999"},
	} {
		if got := impl.FormatFact(c.f); got != c.want {
			t.Errorf("FormatFact(%v) = %q, want %q", c.f, got, c.want)
		}
	}
	for _, f := range noFacts() {
		if got := impl.FormatFact(f); got != "" {
			t.Errorf("FormatFact(%v) = %q", f, got)
		}
	}
}
