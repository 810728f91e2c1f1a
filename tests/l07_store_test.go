package tests

import (
	"math"
	"slices"
	"testing"

	"loop.example/g00594/impl"
)

const maxFacts = 30

// listedClaims holds 32 facts of as many claims, in their order: two subjects, two values and two issuers of each kind.
func listedClaims() []impl.Fact {
	var facts []impl.Fact
	for _, form := range factForms() {
		for _, subject := range []int{form.firstSubject, form.lastSubject} {
			for _, value := range []int{form.firstValue, form.lastValue} {
				for _, issuer := range []int{0, 9} {
					facts = append(facts, impl.Fact{Kind: form.kind, Subject: subject, Value: value, Issuer: issuer, At: 100, Until: 200})
				}
			}
		}
	}
	return facts
}

func timed(f impl.Fact, at, until int) impl.Fact {
	f.At, f.Until = at, until
	return f
}

func with[E any](l []E, place int, x E) []E {
	return slices.Concat(l[:place], []E{x}, l[place:])
}

func without[E any](l []E, place int) []E {
	return slices.Concat(l[:place], l[place+1:])
}

func markedFact() impl.Fact {
	return impl.Fact{Kind: mark, Subject: mark, Value: mark, Issuer: mark, At: mark, Until: mark}
}

func sparedFacts(s []impl.Fact) []impl.Fact {
	return withSpare(s, markedFact())
}

func areFactsUntouched(s []impl.Fact, want []impl.Fact) bool {
	return isWithSpare(s, want, markedFact())
}

// spoilFacts changes everything that a result may reach.
func spoilFacts(s []impl.Fact) {
	s = s[:cap(s)]
	for i := range s {
		s[i].Kind += 1000
		s[i].Until -= 1000
	}
}

// noStores holds lists that are no stores, most of them for one reason only.
func noStores() [][]impl.Fact {
	facts := listedClaims()
	lists := [][]impl.Fact{
		{{}},
		{facts[1], facts[0]},
		{facts[0], facts[2], facts[1]},
		{facts[0], facts[0]},
		{facts[0], timed(facts[0], 101, 200)},
		{timed(facts[0], 101, 200), facts[0]},
		{facts[0], timed(facts[0], 100, 201)},
		{facts[0], facts[1], facts[1], facts[2]},
		{facts[0], facts[1], facts[0]},
		{facts[0], timed(facts[1], 201, 200)},
		{timed(facts[0], -1, 200), facts[1]},
		facts[:maxFacts+1],
		facts,
		slices.Repeat(facts[:1], maxFacts),
		slices.Repeat(facts[:1], 100),
	}
	reversed := slices.Clone(facts[:maxFacts])
	slices.Reverse(reversed)
	return append(lists, reversed)
}

// book keeps the newest fact of each claim by the place of the claim in listedClaims.
type book map[int]impl.Fact

func (b book) put(f impl.Fact) bool {
	for i, c := range listedClaims() {
		if timed(f, 0, 0) != timed(c, 0, 0) || f.At < 0 || f.At > f.Until || f.Until > maxTime {
			continue
		}
		old, isKnown := b[i]
		if !isKnown && len(b) == maxFacts {
			return false
		}
		// No time is as great as the step, so that an end never outweighs a start.
		const step = 2 * maxTime
		if !isKnown || f.At*step+f.Until > old.At*step+old.Until {
			b[i] = f
		}
		return true
	}
	return false
}

func (b book) store() []impl.Fact {
	s := []impl.Fact{}
	for i := range listedClaims() {
		if f, isKnown := b[i]; isKnown {
			s = append(s, f)
		}
	}
	return s
}

// drawnFacts draws count facts of the listed claims, with few times, some of them not valid.
func drawnFacts(seed uint32, count int) []impl.Fact {
	claims := listedClaims()
	draw := func(n int) int {
		seed = seed*1664525 + 1013904223
		return int(seed>>16) % n
	}
	facts := make([]impl.Fact, count)
	for i := range facts {
		facts[i] = timed(claims[draw(len(claims))], draw(4)-draw(8)/7, 1+draw(4))
	}
	return facts
}

func TestMaxFacts(t *testing.T) {
	if impl.MaxFacts != maxFacts {
		t.Errorf("MaxFacts is %d", impl.MaxFacts)
	}
}

func TestIsStore(t *testing.T) {
	facts := listedClaims()
	for _, s := range [][]impl.Fact{nil, {}, facts[31:], facts[5:7], {facts[0], facts[31]}, facts[:29], facts[:maxFacts], facts[2:]} {
		if !impl.IsStore(s) {
			t.Errorf("%v is no store", s)
		}
	}
	for _, s := range noStores() {
		if impl.IsStore(s) {
			t.Errorf("%v is a store", s)
		}
	}
}

func TestStoresOfEveryLength(t *testing.T) {
	facts := listedClaims()
	for n := 0; n <= len(facts); n++ {
		if got := impl.IsStore(facts[:n]); got != (n <= maxFacts) {
			t.Errorf("IsStore of %d facts = %v", n, got)
		}
	}
}

// The store is spoiled at each place in turn.
func TestStoresThatAreSpoiledAtOnePlace(t *testing.T) {
	store := listedClaims()[:maxFacts-1]
	for place, f := range store {
		for _, bad := range noFacts() {
			if s := with(without(store, place), place, bad); impl.IsStore(s) {
				t.Errorf("with %v at %d it is a store", bad, place)
			}
		}
		for _, late := range []impl.Fact{f, timed(f, 99, 200), timed(f, 101, 200), timed(f, 100, 199), timed(f, 100, 201)} {
			for other := 0; other <= len(store); other++ {
				if s := with(store, other, late); impl.IsStore(s) {
					t.Errorf("with %v again at %d it is a store", late, other)
				}
			}
		}
		for other := range store {
			s := slices.Clone(store)
			s[place], s[other] = s[other], s[place]
			if impl.IsStore(s) != (place == other) {
				t.Errorf("IsStore with %d and %d exchanged = %v", place, other, impl.IsStore(s))
			}
		}
	}
}

func TestPutFactIntoTheEmptyStore(t *testing.T) {
	for _, empty := range [][]impl.Fact{nil, {}} {
		for _, f := range append(someFacts(), listedClaims()...) {
			got, ok := impl.PutFact(empty, f)
			if !ok || !slices.Equal(got, []impl.Fact{f}) {
				t.Errorf("PutFact(%v, %v) = %v, %v", empty, f, got, ok)
			}
		}
		for _, f := range noFacts() {
			got, ok := impl.PutFact(empty, f)
			if ok || len(got) != 0 {
				t.Errorf("PutFact(%v, %v) = %v, %v", empty, f, got, ok)
			}
		}
	}
}

// Each fact of each store is taken out of it and put again: in front, between two and behind.
func TestPutFactAtEveryPlace(t *testing.T) {
	for n := 1; n <= maxFacts; n++ {
		want := listedClaims()[:n]
		for place, f := range want {
			s := without(want, place)
			got, ok := impl.PutFact(s, f)
			if !ok || !slices.Equal(got, want) || !impl.IsStore(got) {
				t.Errorf("PutFact(%v, %v) = %v, %v", s, f, got, ok)
			}
		}
	}
}

func TestPutFactsInAnyOrder(t *testing.T) {
	want := listedClaims()[1:31]
	for step := 1; step < 31; step++ {
		s, ok := []impl.Fact(nil), false
		// As 31 is prime, the multiples of the step meet every place from 1 to 30.
		for i := 1; i <= 30; i++ {
			if s, ok = impl.PutFact(s, want[i*step%31-1]); !ok {
				t.Errorf("step %d: fact %d was not put", step, i)
			}
		}
		if !slices.Equal(s, want) {
			t.Errorf("step %d: %v", step, s)
		}
	}
}

func TestPutFactThatIsNotValid(t *testing.T) {
	for _, s := range [][]impl.Fact{listedClaims()[:1], someFacts(), listedClaims()[:29], listedClaims()[:maxFacts]} {
		for _, f := range noFacts() {
			got, ok := impl.PutFact(s, f)
			if ok || !slices.Equal(got, s) {
				t.Errorf("PutFact(%v, %v) = %v, %v", s, f, got, ok)
			}
		}
	}
}

// A fact of a claim that the store has is not taken if it is not valid, however late its times are.
func TestPutFactOfAKnownClaimWithTimesThatAreNone(t *testing.T) {
	s := listedClaims()[:5]
	for _, f := range s {
		for _, bad := range []impl.Fact{timed(f, 300, 299), timed(f, 300, maxTime+1), timed(f, maxTime+1, maxTime+1), timed(f, -1, 300), timed(f, 100, math.MaxInt)} {
			got, ok := impl.PutFact(s, bad)
			if ok || !slices.Equal(got, s) {
				t.Errorf("PutFact of %v = %v, %v", bad, got, ok)
			}
		}
	}
}

func TestPutFactOfAKnownClaim(t *testing.T) {
	for _, c := range []struct {
		at, until int
		isNewer   bool
	}{
		{99, 199, false},
		{99, 200, false},
		{99, 201, false},
		{100, 199, false},
		{100, 200, false},
		{100, 201, true},
		{101, 199, true},
		{101, 200, true},
		{101, 201, true},
		{0, maxTime, false},
		{0, 0, false},
		{100, 100, false},
		{100, maxTime, true},
		{101, 101, true},
		{maxTime, maxTime, true},
	} {
		for _, n := range []int{1, 2, 3, 29, maxFacts} {
			s := listedClaims()[:n]
			for place, old := range s {
				f := timed(old, c.at, c.until)
				want := slices.Clone(s)
				if c.isNewer {
					want[place] = f
				}
				got, ok := impl.PutFact(s, f)
				if !ok || !slices.Equal(got, want) {
					t.Errorf("PutFact of %v into %d facts at %d = %v, %v", f, n, place, got, ok)
				}
			}
		}
	}
}

func TestTheNewestFactRemainsWhateverTheOrder(t *testing.T) {
	const most = 3
	for _, claim := range someFacts() {
		var facts []impl.Fact
		for at := 0; at <= most; at++ {
			for until := at; until <= most; until++ {
				facts = append(facts, timed(claim, at, until))
			}
		}
		// The facts are listed from the oldest to the newest one.
		for i, f := range facts {
			for j, g := range facts {
				for k, h := range facts {
					s := impl.MergeStores(nil, []impl.Fact{f, g, h})
					if !slices.Equal(s, []impl.Fact{facts[max(i, j, k)]}) {
						t.Errorf("of %v, %v and %v remains %v", f, g, h, s)
					}
				}
			}
		}
	}
}

// Facts that differ in one part of their claim stand beside each other.
func TestPutFactOfAnotherClaim(t *testing.T) {
	f := impl.Fact{Kind: 3, Subject: 22, Value: 1, Issuer: 4, At: 5, Until: 20}
	for _, g := range []impl.Fact{
		{Kind: 4, Subject: 32, Value: 1, Issuer: 4, At: 5, Until: 20},
		{Kind: 3, Subject: 23, Value: 1, Issuer: 4, At: 5, Until: 20},
		{Kind: 3, Subject: 22, Value: 2, Issuer: 4, At: 5, Until: 20},
		{Kind: 3, Subject: 22, Value: 1, Issuer: 5, At: 5, Until: 20},
	} {
		for _, order := range [][]impl.Fact{{f, g}, {g, f}} {
			s, first := impl.PutFact(nil, order[0])
			s, second := impl.PutFact(s, order[1])
			if !first || !second || !slices.Equal(s, []impl.Fact{f, g}) {
				t.Errorf("%v were put as %v", order, s)
			}
		}
	}
}

func TestPutFactIntoAFullStore(t *testing.T) {
	facts := listedClaims()
	for lacked := range facts[:maxFacts+1] {
		s := without(facts[:maxFacts+1], lacked)
		got, ok := impl.PutFact(s, facts[lacked])
		if ok || !slices.Equal(got, s) {
			t.Errorf("PutFact of %v into a full store = %v, %v", facts[lacked], got, ok)
		}
		got, ok = impl.PutFact(s, timed(s[0], 100, 201))
		if want := with(s[1:], 0, timed(s[0], 100, 201)); !ok || !slices.Equal(got, want) {
			t.Errorf("PutFact of a claim that it has into a full store = %v, %v", got, ok)
		}
	}
}

func TestPutFactIntoWhatIsNoStore(t *testing.T) {
	for _, s := range noStores() {
		for _, f := range slices.Concat(listedClaims(), noFacts(), s) {
			got, ok := impl.PutFact(s, f)
			if ok || !slices.Equal(got, s) {
				t.Errorf("PutFact(%v, %v) = %v, %v", s, f, got, ok)
			}
		}
	}
}

func TestManyFactsThatArePut(t *testing.T) {
	for seed := range uint32(40) {
		kept := book{}
		s := []impl.Fact{}
		for i, f := range drawnFacts(seed, 300) {
			wasPut := kept.put(f)
			got, ok := impl.PutFact(s, f)
			if ok != wasPut || !slices.Equal(got, kept.store()) || !impl.IsStore(got) {
				t.Fatalf("seed %d, fact %d: PutFact(%v, %v) = %v, %v, want %v, %v", seed, i, s, f, got, ok, kept.store(), wasPut)
			}
			s = got
		}
		if len(s) != maxFacts {
			t.Errorf("seed %d: %d facts", seed, len(s))
		}
	}
}

// storeOfHealth holds facts of device 22, and some of others; the first two state the same.
func storeOfHealth() []impl.Fact {
	return []impl.Fact{
		{Kind: 1, Subject: 12, Value: 2, Issuer: 1, At: 0, Until: 50},
		{Kind: 2, Subject: 12, Value: 22, Issuer: 1, At: 0, Until: 50},
		{Kind: 3, Subject: 21, Value: 2, Issuer: 1, At: 0, Until: 50},
		{Kind: 3, Subject: 22, Value: 0, Issuer: 1, At: 0, Until: 50},
		{Kind: 3, Subject: 22, Value: 2, Issuer: 1, At: 5, Until: 10},
		{Kind: 3, Subject: 22, Value: 2, Issuer: 3, At: 8, Until: 20},
		{Kind: 3, Subject: 22, Value: 3, Issuer: 0, At: 12, Until: 14},
		{Kind: 3, Subject: 23, Value: 3, Issuer: 1, At: 0, Until: 50},
		{Kind: 4, Subject: 32, Value: 1, Issuer: 1, At: 0, Until: 50},
	}
}

func TestFindFact(t *testing.T) {
	s := storeOfHealth()
	if !impl.IsStore(s) {
		t.Fatal("no store")
	}
	for _, c := range []struct {
		kind, subject, value, now, age int
		want                           int
	}{
		{3, 22, 2, 4, 100, -1},
		{3, 22, 2, 5, 100, 4},
		{3, 22, 2, 5, 0, 4},
		{3, 22, 2, 5, -1, -1},
		{3, 22, 2, 6, 0, -1},
		{3, 22, 2, 6, 1, 4},
		{3, 22, 2, 10, 5, 4},
		{3, 22, 2, 10, 4, 5},
		{3, 22, 2, 10, 2, 5},
		{3, 22, 2, 10, 1, -1},
		{3, 22, 2, 11, 100, 5},
		{3, 22, 2, 20, 12, 5},
		{3, 22, 2, 20, 11, -1},
		{3, 22, 2, 21, 100, -1},
		{3, 22, 2, -1, 100, -1},
		{3, 22, 2, math.MinInt, math.MaxInt, -1},
		{3, 22, 2, math.MaxInt, math.MaxInt, -1},
		{3, 22, 2, 8, math.MaxInt, 4},
		{3, 22, 2, 8, math.MinInt, -1},
		{1, 12, 2, 9, 100, 0},
		{2, 12, 22, 9, 100, 1},
		{3, 21, 2, 9, 100, 2},
		{3, 22, 0, 9, 100, 3},
		{3, 22, 3, 12, 100, 6},
		{3, 23, 3, 9, 100, 7},
		{4, 32, 1, 9, 100, 8},
		{3, 22, 1, 9, 100, -1},
		{3, 22, 3, 9, 100, -1},
		{3, 24, 2, 9, 100, -1},
		{1, 22, 2, 9, 100, -1},
		{2, 12, 21, 9, 100, -1},
		{0, 22, 2, 9, 100, -1},
		{5, 22, 2, 9, 100, -1},
		{0, 0, 0, 0, 0, -1},
		{math.MinInt, math.MaxInt, math.MinInt, 9, 100, -1},
	} {
		if got := impl.FindFact(s, c.kind, c.subject, c.value, c.now, c.age); got != c.want {
			t.Errorf("FindFact(%d, %d, %d, %d, %d) = %d, want %d", c.kind, c.subject, c.value, c.now, c.age, got, c.want)
		}
		for _, empty := range [][]impl.Fact{nil, {}} {
			if got := impl.FindFact(empty, c.kind, c.subject, c.value, c.now, c.age); got != -1 {
				t.Errorf("FindFact in the empty store = %d", got)
			}
		}
	}
}

// placeAndBest tells, one fact after the other, what FindFact and BestValue must return.
func placeAndBest(s []impl.Fact, kind, subject, value, now, age int) (place, best int) {
	place, best = -1, -1
	for i, f := range s {
		holds := f.At >= 0 && f.At <= now && now <= f.Until && f.Until <= maxTime && now-f.At <= age
		if !holds || f.Kind != kind || f.Subject != subject {
			continue
		}
		if place == -1 && f.Value == value {
			place = i
		}
		if f.Value > best {
			best = f.Value
		}
	}
	return place, best
}

func TestFindFactAndBestValueOfMany(t *testing.T) {
	for seed := range uint32(10) {
		merged := impl.MergeStores(nil, drawnFacts(seed, 60))
		// A list that is no store is searched as it is.
		for _, s := range [][]impl.Fact{merged, drawnFacts(seed, 40), storeOfHealth()} {
			for _, f := range s {
				for now := -1; now <= 5; now++ {
					for age := -1; age <= 5; age++ {
						place, best := placeAndBest(s, f.Kind, f.Subject, f.Value, now, age)
						if got := impl.FindFact(s, f.Kind, f.Subject, f.Value, now, age); got != place {
							t.Errorf("FindFact of %v at %d, age %d, in %v = %d, want %d", f, now, age, s, got, place)
						}
						if got := impl.BestValue(s, f.Kind, f.Subject, now, age); got != best {
							t.Errorf("BestValue for %v at %d, age %d, in %v = %d, want %d", f, now, age, s, got, best)
						}
					}
				}
			}
		}
	}
}

func TestWhatIsNoFactIsNotFound(t *testing.T) {
	for _, f := range noFacts() {
		s := []impl.Fact{f, f}
		for now := -1; now <= 21; now++ {
			if got := impl.FindFact(s, f.Kind, f.Subject, f.Value, now, math.MaxInt); got != -1 {
				t.Errorf("FindFact of %v at %d = %d", f, now, got)
			}
			if got := impl.BestValue(s, f.Kind, f.Subject, now, math.MaxInt); got != -1 {
				t.Errorf("BestValue for %v at %d = %d", f, now, got)
			}
		}
	}
}

func TestBestValue(t *testing.T) {
	s := storeOfHealth()
	for _, c := range []struct {
		kind, subject, now, age int
		want                    int
	}{
		{3, 22, 0, 0, 0},
		{3, 22, 4, 4, 0},
		{3, 22, 4, 3, -1},
		{3, 22, 5, 100, 2},
		{3, 22, 10, 2, 2},
		{3, 22, 10, 1, -1},
		{3, 22, 11, 100, 2},
		{3, 22, 12, 0, 3},
		{3, 22, 12, 100, 3},
		{3, 22, 14, 2, 3},
		{3, 22, 14, 1, -1},
		{3, 22, 15, 100, 2},
		{3, 22, 15, 6, -1},
		{3, 22, 20, 100, 2},
		{3, 22, 21, 100, 0},
		{3, 22, 50, 50, 0},
		{3, 22, 50, 49, -1},
		{3, 22, 51, 100, -1},
		{3, 22, -1, 100, -1},
		{3, 22, 12, math.MaxInt, 3},
		{3, 22, 12, math.MinInt, -1},
		{3, 22, math.MaxInt, math.MaxInt, -1},
		{1, 12, 9, 100, 2},
		{2, 12, 9, 100, 22},
		{3, 21, 9, 100, 2},
		{3, 23, 9, 100, 3},
		{4, 32, 9, 100, 1},
		{4, 22, 9, 100, -1},
		{3, 32, 9, 100, -1},
		{3, 24, 9, 100, -1},
		{0, 22, 9, 100, -1},
		{0, 0, 0, 0, -1},
		{math.MaxInt, math.MinInt, 9, 100, -1},
	} {
		if got := impl.BestValue(s, c.kind, c.subject, c.now, c.age); got != c.want {
			t.Errorf("BestValue(%d, %d, %d, %d) = %d, want %d", c.kind, c.subject, c.now, c.age, got, c.want)
		}
		for _, empty := range [][]impl.Fact{nil, {}} {
			if got := impl.BestValue(empty, c.kind, c.subject, c.now, c.age); got != -1 {
				t.Errorf("BestValue in the empty store = %d", got)
			}
		}
	}
}

// The values of a list that is no store may stand in any order.
func TestBestValueWhereverItStands(t *testing.T) {
	for _, values := range [][]int{{3, 1, 2}, {1, 3, 2}, {1, 2, 3}, {3, 3, 0}, {0, 3}, {3}} {
		var s []impl.Fact
		for _, v := range values {
			s = append(s, impl.Fact{Kind: 4, Subject: 31, Value: v, Issuer: 1, At: 5, Until: 9})
		}
		if got := impl.BestValue(s, 4, 31, 7, 2); got != 3 {
			t.Errorf("BestValue of %v = %d", values, got)
		}
	}
}

func TestDropPast(t *testing.T) {
	facts := listedClaims()
	ends := []int{20, 19, 21, 20, 0, maxTime, 18}
	s := make([]impl.Fact, len(ends))
	for i, end := range ends {
		s[i] = timed(facts[i], 0, end)
	}
	for _, c := range []struct {
		now  int
		want []impl.Fact
	}{
		{0, s},
		{-1, s},
		{math.MinInt, s},
		{1, without(s, 4)},
		{18, without(s, 4)},
		{19, []impl.Fact{s[0], s[1], s[2], s[3], s[5]}},
		{20, []impl.Fact{s[0], s[2], s[3], s[5]}},
		{21, []impl.Fact{s[2], s[5]}},
		{22, []impl.Fact{s[5]}},
		{maxTime, []impl.Fact{s[5]}},
		{maxTime + 1, nil},
		{math.MaxInt, nil},
	} {
		if got := impl.DropPast(s, c.now); !slices.Equal(got, c.want) || !impl.IsStore(got) {
			t.Errorf("DropPast at %d = %v", c.now, got)
		}
		if got := impl.DropPast(nil, c.now); len(got) != 0 {
			t.Errorf("DropPast(nil, %d) = %v", c.now, got)
		}
		if got := impl.DropPast([]impl.Fact{}, c.now); len(got) != 0 {
			t.Errorf("DropPast of the empty store at %d = %v", c.now, got)
		}
	}
}

// What is dropped is told by the end alone, also of facts that are not stated yet and of those that are not valid.
func TestDropPastLooksAtTheEndOnly(t *testing.T) {
	for _, f := range slices.Concat(someFacts(), noFacts(), listedClaims()) {
		for _, s := range [][]impl.Fact{{f}, {f, f, f}} {
			if got := impl.DropPast(s, f.Until); !slices.Equal(got, s) {
				t.Errorf("DropPast(%v, %d) = %v", s, f.Until, got)
			}
			if f.Until == math.MaxInt {
				continue
			}
			if got := impl.DropPast(s, f.Until+1); len(got) != 0 {
				t.Errorf("DropPast(%v, %d) = %v", s, f.Until+1, got)
			}
		}
	}
	for _, s := range noStores() {
		if got := impl.DropPast(s, -1); !slices.Equal(got, s) {
			t.Errorf("DropPast(%v, -1) = %v", s, got)
		}
	}
}

func TestMergeStores(t *testing.T) {
	facts := listedClaims()
	newer := timed(facts[1], 101, 150)
	older := timed(facts[1], 99, 250)
	longer := timed(facts[1], 100, 201)
	for _, c := range []struct {
		a, b, want []impl.Fact
	}{
		{nil, nil, nil},
		{nil, facts[:3], facts[:3]},
		{facts[:3], nil, facts[:3]},
		{[]impl.Fact{}, facts[:maxFacts], facts[:maxFacts]},
		{facts[:maxFacts], []impl.Fact{}, facts[:maxFacts]},
		{facts[:3], facts[3:6], facts[:6]},
		{facts[3:6], facts[:3], facts[:6]},
		{[]impl.Fact{facts[0], facts[2]}, []impl.Fact{facts[1], facts[3]}, facts[:4]},
		{facts[:3], facts[1:5], facts[:5]},
		{facts[:3], []impl.Fact{newer}, []impl.Fact{facts[0], newer, facts[2]}},
		{[]impl.Fact{newer}, facts[:3], []impl.Fact{facts[0], newer, facts[2]}},
		{facts[:3], []impl.Fact{older}, facts[:3]},
		{[]impl.Fact{older}, facts[:3], facts[:3]},
		{facts[:3], []impl.Fact{longer, facts[4]}, []impl.Fact{facts[0], longer, facts[2], facts[4]}},
		{facts[:maxFacts], facts[2:], facts[:maxFacts]},
		{facts[2:], facts[:maxFacts], facts[2:]},
		{facts[:20], facts[12:], facts[:maxFacts]},
		{facts[12:], facts[:20], slices.Concat(facts[:10], facts[12:])},
		{facts[:29], facts[30:], slices.Concat(facts[:29], facts[30:31])},
		{facts[2:], []impl.Fact{facts[0], timed(facts[5], 101, 101), facts[1]}, slices.Concat(facts[2:5], []impl.Fact{timed(facts[5], 101, 101)}, facts[6:])},
	} {
		if got := impl.MergeStores(c.a, c.b); !slices.Equal(got, c.want) || !impl.IsStore(got) {
			t.Errorf("MergeStores(%v, %v) = %v", c.a, c.b, got)
		}
	}
}

func TestMergeStoreWithItself(t *testing.T) {
	for n := 0; n <= maxFacts; n++ {
		s := listedClaims()[:n]
		if got := impl.MergeStores(s, s); !slices.Equal(got, s) {
			t.Errorf("MergeStores of %v with itself = %v", s, got)
		}
	}
}

// Nothing can be put into a list that is no store; what a second list has is put by itself, in its order.
func TestMergeWhatIsNoStore(t *testing.T) {
	for _, s := range noStores() {
		for _, b := range [][]impl.Fact{nil, listedClaims()[:3], someFacts(), s} {
			if got := impl.MergeStores(s, b); !slices.Equal(got, s) {
				t.Errorf("MergeStores(%v, %v) = %v", s, b, got)
			}
		}
	}
	facts := listedClaims()
	bad := timed(facts[1], 9, 8)
	late := timed(facts[0], 101, 101)
	for _, c := range []struct {
		a, b, want []impl.Fact
	}{
		{nil, []impl.Fact{facts[2], facts[1], facts[0]}, facts[:3]},
		{nil, []impl.Fact{facts[0], late}, []impl.Fact{late}},
		{nil, []impl.Fact{late, facts[0]}, []impl.Fact{late}},
		{nil, []impl.Fact{{}, facts[0], bad, facts[2]}, []impl.Fact{facts[0], facts[2]}},
		{nil, noFacts(), nil},
		{facts[:3], noFacts(), facts[:3]},
		{facts[:3], []impl.Fact{bad}, facts[:3]},
		{nil, facts, facts[:maxFacts]},
		{facts[31:], facts, append(slices.Clone(facts[:29]), facts[31])},
		{nil, slices.Repeat(facts[:2], 50), facts[:2]},
	} {
		if got := impl.MergeStores(c.a, c.b); !slices.Equal(got, c.want) {
			t.Errorf("MergeStores(%v, %v) = %v", c.a, c.b, got)
		}
	}
}

func TestMergeManyFacts(t *testing.T) {
	for seed := range uint32(60) {
		first := drawnFacts(seed, int(seed))
		second := drawnFacts(seed+1000, 50)
		kept := book{}
		for _, f := range first {
			kept.put(f)
		}
		a := impl.MergeStores(nil, first)
		if !slices.Equal(a, kept.store()) {
			t.Errorf("seed %d: MergeStores(nil, %v) = %v", seed, first, a)
		}
		for _, f := range second {
			kept.put(f)
		}
		if got := impl.MergeStores(a, second); !slices.Equal(got, kept.store()) {
			t.Errorf("seed %d: MergeStores(%v, %v) = %v, want %v", seed, a, second, got, kept.store())
		}
	}
}

func TestEqualStores(t *testing.T) {
	facts := listedClaims()
	for n := 0; n <= len(facts); n++ {
		for m := 0; m <= len(facts); m++ {
			if got := impl.EqualStores(facts[:n], slices.Clone(facts[:m])); got != (n == m) {
				t.Errorf("EqualStores of %d and %d facts = %v", n, m, got)
			}
		}
	}
	if !impl.EqualStores(nil, []impl.Fact{}) || !impl.EqualStores([]impl.Fact{}, nil) || !impl.EqualStores(nil, nil) {
		t.Error("a nil slice and an empty slice differ")
	}
	for place, f := range facts {
		for _, d := range []int{1, -1, 1 << 40} {
			for _, g := range changedInOnePart(f, d) {
				s := slices.Clone(facts)
				s[place] = g
				if impl.EqualStores(s, facts) || impl.EqualStores(facts, s) {
					t.Errorf("with %v in place of %v they are equal", g, f)
				}
			}
		}
	}
	if impl.EqualStores([]impl.Fact{facts[0], facts[1]}, []impl.Fact{facts[1], facts[0]}) {
		t.Error("equal in another order")
	}
	for _, s := range noStores() {
		if !impl.EqualStores(s, slices.Clone(s)) {
			t.Errorf("%v differs from itself", s)
		}
	}
}

func TestStoresAreAsTheyWere(t *testing.T) {
	facts := listedClaims()
	lists := append(noStores(), nil, facts[:1], facts[:29], facts[:maxFacts], storeOfHealth())
	puts := slices.Concat(facts, noFacts(), []impl.Fact{timed(facts[0], 101, 101), timed(facts[28], 100, 201), timed(facts[3], 0, 0)})
	for _, list := range lists {
		s := sparedFacts(list)
		for _, f := range puts {
			got, _ := impl.PutFact(s, f)
			spoilFacts(got)
			if !areFactsUntouched(s, list) {
				t.Fatalf("PutFact of %v changed %v", f, list)
			}
		}
		for _, now := range []int{0, 10, 101, 300} {
			got := impl.DropPast(s, now)
			spoilFacts(got)
			impl.FindFact(s, 3, 20, 3, now, 10)
			impl.BestValue(s, 3, 20, now, 10)
			if !areFactsUntouched(s, list) {
				t.Fatalf("what was asked at %d changed %v", now, list)
			}
		}
		for _, other := range lists {
			o := sparedFacts(other)
			impl.EqualStores(s, o)
			impl.IsStore(s)
			spoilFacts(impl.MergeStores(s, o))
			if !areFactsUntouched(s, list) || !areFactsUntouched(o, other) {
				t.Fatalf("MergeStores changed %v or %v", list, other)
			}
		}
	}
}

// Results are of new memory: a store that was returned stays as it is while others are made from it.
func TestStoresShareNoMemory(t *testing.T) {
	facts := listedClaims()
	s, _ := impl.PutFact(facts[:10], facts[10])
	kept := slices.Clone(s)
	left, _ := impl.PutFact(s, facts[20])
	right, _ := impl.PutFact(s, facts[21])
	if !slices.Equal(left, append(slices.Clone(kept), facts[20])) || !slices.Equal(right, append(slices.Clone(kept), facts[21])) {
		t.Errorf("%v and %v were made from %v", left, right, s)
	}
	for _, made := range [][]impl.Fact{left, right, impl.MergeStores(s, nil), impl.MergeStores(nil, s), impl.DropPast(s, 0)} {
		spoilFacts(made)
	}
	if !slices.Equal(s, kept) {
		t.Errorf("%v has become %v", kept, s)
	}
}
