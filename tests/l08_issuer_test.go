package tests

import (
	"fmt"
	"math"
	"reflect"
	"slices"
	"testing"

	"loop.example/g00594/impl"
)

const maxIssuers = 4

// listsOfKinds holds all lists of kinds that an issuer may have: the 16 sets of the four kinds.
func listsOfKinds() [][]int {
	return [][]int{
		{}, {1}, {2}, {1, 2}, {3}, {1, 3}, {2, 3}, {1, 2, 3},
		{4}, {1, 4}, {2, 4}, {1, 2, 4}, {3, 4}, {1, 3, 4}, {2, 3, 4}, {1, 2, 3, 4},
	}
}

// noListsOfKinds holds lists that no issuer may have.
func noListsOfKinds() [][]int {
	return [][]int{
		{0}, {5}, {-1}, {0, 1}, {4, 5}, {1, 5}, {0, 1, 2, 3, 4}, {1, 2, 3, 4, 5}, {-1, 1}, {0, 5},
		{1, 1}, {4, 4}, {1, 1, 2}, {1, 2, 2}, {1, 2, 3, 4, 4}, {1, 2, 1}, {1, 2, 3, 4, 1},
		{2, 1}, {4, 3, 2, 1}, {1, 3, 2}, {2, 1, 3}, {1, 4, 2, 3}, {2, 1, 4, 3},
		{math.MinInt}, {math.MaxInt}, {math.MinInt, 1}, {1, math.MaxInt}, {math.MinInt, math.MaxInt}, {math.MaxInt, math.MinInt},
		{1 << 32, 1<<32 + 1}, slices.Repeat([]int{1}, 100), slices.Repeat([]int{1, 2, 3, 4}, 2),
	}
}

func keysOfIssuers() []int {
	return []int{1, 2, 9, 12345, modulus - 2, modulus - 1}
}

func noKeysOfIssuers() []int {
	return []int{0, -1, -9, modulus, modulus + 1, modulus + 9, 2 * modulus, -modulus + 9, 1 << 32, math.MinInt, math.MaxInt}
}

func noIds() []int {
	return []int{-1, 10, -9, 11, 100, 1 << 32, math.MinInt, math.MaxInt}
}

// noIssuers holds issuers that are not valid, each for one reason only.
func noIssuers() []impl.Issuer {
	var l []impl.Issuer
	for _, id := range noIds() {
		l = append(l, impl.Issuer{Id: id, Kinds: []int{1, 2, 3, 4}, Secret: 9})
	}
	for _, kinds := range noListsOfKinds() {
		l = append(l, impl.Issuer{Id: 1, Kinds: kinds, Secret: 9})
	}
	for _, secret := range noKeysOfIssuers() {
		l = append(l, impl.Issuer{Id: 1, Kinds: []int{1, 2, 3, 4}, Secret: secret})
	}
	return l
}

// someIssuers holds four issuers: the first and the last may state everything, those between two kinds each.
func someIssuers() []impl.Issuer {
	return []impl.Issuer{
		{Id: 0, Kinds: []int{1, 2, 3, 4}, Secret: 101},
		{Id: 1, Kinds: []int{1, 3}, Secret: 9},
		{Id: 4, Kinds: []int{2, 4}, Secret: modulus - 1},
		{Id: 9, Kinds: []int{1, 2, 3, 4}, Secret: 1},
	}
}

// issuersWith holds issuers with these Ids who may state everything, with a secret by their place.
func issuersWith(ids ...int) []impl.Issuer {
	l := []impl.Issuer{}
	for i, id := range ids {
		l = append(l, impl.Issuer{Id: id, Kinds: []int{1, 2, 3, 4}, Secret: 50 + i})
	}
	return l
}

// sealed is the fact as the issuer with this Id and secret states it, whether it may or not.
func sealed(id, secret int, f impl.Fact) impl.Stated {
	f.Issuer = id
	return impl.Stated{Fact: f, Mark: bigKeyedHash(secret, f.Kind, f.Subject, f.Value, id, f.At, f.Until)}
}

func sealedBy(x impl.Issuer, f impl.Fact) impl.Stated {
	return sealed(x.Id, x.Secret, f)
}

// says is what the fact's own issuer, one of issuersWith(0, 9), states.
func says(f impl.Fact) impl.Stated {
	return sealed(f.Issuer, 50+f.Issuer/9, f)
}

func withWrongMark(s impl.Stated) impl.Stated {
	s.Mark++
	return s
}

// sparedIssuers returns a copy of l with marked spare capacity behind it and behind the kinds of each issuer.
func sparedIssuers(l []impl.Issuer) []impl.Issuer {
	whole := slices.Concat(l, slices.Repeat([]impl.Issuer{{Id: mark, Secret: mark}}, 16))
	for i := range l {
		whole[i].Kinds = sparedInts(l[i].Kinds)
	}
	return whole[:len(l)]
}

func areIssuersUntouched(l []impl.Issuer, want []impl.Issuer) bool {
	for i, x := range l {
		if x.Id != want[i].Id || x.Secret != want[i].Secret || !areUntouched(x.Kinds, want[i].Kinds) {
			return false
		}
	}
	for _, x := range l[len(l) : len(l)+16] {
		if !reflect.DeepEqual(x, impl.Issuer{Id: mark, Secret: mark}) {
			return false
		}
	}
	return len(l) == len(want)
}

func markedStatement() impl.Stated {
	return impl.Stated{Fact: markedFact(), Mark: mark}
}

func sparedStatements(list []impl.Stated) []impl.Stated {
	return withSpare(list, markedStatement())
}

func areStatementsUntouched(list []impl.Stated, want []impl.Stated) bool {
	return isWithSpare(list, want, markedStatement())
}

func TestMaxIssuers(t *testing.T) {
	if impl.MaxIssuers != maxIssuers {
		t.Errorf("MaxIssuers is %d", impl.MaxIssuers)
	}
}

func TestIsIssuer(t *testing.T) {
	for id := range 10 {
		for _, kinds := range append(listsOfKinds(), nil) {
			for _, secret := range keysOfIssuers() {
				if x := (impl.Issuer{Id: id, Kinds: kinds, Secret: secret}); !impl.IsIssuer(x) {
					t.Errorf("%v is none", x)
				}
			}
		}
	}
	for _, x := range append(noIssuers(), impl.Issuer{}, impl.Issuer{Id: 1}, impl.Issuer{Id: -1, Kinds: []int{5}, Secret: -1}) {
		if impl.IsIssuer(x) {
			t.Errorf("%v is an issuer", x)
		}
	}
}

// Each reason is enough by itself, whatever the other parts are.
func TestWhatIsNoIssuer(t *testing.T) {
	for _, kinds := range listsOfKinds() {
		for _, secret := range keysOfIssuers() {
			for _, id := range noIds() {
				if x := (impl.Issuer{Id: id, Kinds: kinds, Secret: secret}); impl.IsIssuer(x) {
					t.Errorf("%v is an issuer", x)
				}
			}
		}
		for _, secret := range noKeysOfIssuers() {
			for id := range 10 {
				if x := (impl.Issuer{Id: id, Kinds: kinds, Secret: secret}); impl.IsIssuer(x) {
					t.Errorf("%v is an issuer", x)
				}
			}
		}
	}
	for _, kinds := range noListsOfKinds() {
		for id := range 10 {
			if x := (impl.Issuer{Id: id, Kinds: kinds, Secret: 9}); impl.IsIssuer(x) {
				t.Errorf("%v is an issuer", x)
			}
		}
	}
}

// Of all lists of up to five numbers from 0 to 5, only the sets of kinds are those of an issuer.
func TestEveryShortListOfKinds(t *testing.T) {
	isSet := map[string]bool{}
	for _, kinds := range listsOfKinds() {
		isSet[fmt.Sprint(kinds)] = true
	}
	lists := [][]int{{}}
	for length := 0; length <= 5; length++ {
		var longer [][]int
		for _, kinds := range lists {
			if got := impl.IsIssuer(impl.Issuer{Id: 5, Kinds: kinds, Secret: 7}); got != isSet[fmt.Sprint(kinds)] {
				t.Errorf("IsIssuer with the kinds %v = %v", kinds, got)
			}
			for k := 0; k <= 5; k++ {
				longer = append(longer, append(slices.Clone(kinds), k))
			}
		}
		lists = longer
	}
}

func TestAreIssuers(t *testing.T) {
	four := someIssuers()
	for _, l := range [][]impl.Issuer{
		nil, {}, four[:1], four[1:2], four[3:], four[:2], four[2:], {four[0], four[3]}, four[:3], four,
		issuersWith(0), issuersWith(9), issuersWith(0, 9), issuersWith(0, 1, 2, 3), issuersWith(6, 7, 8, 9),
		{{Id: 3, Secret: 8}}, {{Id: 3, Secret: 8}, {Id: 5, Secret: 8}},
	} {
		if !impl.AreIssuers(l) {
			t.Errorf("%v are none", l)
		}
	}
	for _, l := range [][]impl.Issuer{
		issuersWith(0, 1, 2, 3, 4), issuersWith(5, 6, 7, 8, 9), issuersWith(0, 1, 2, 3, 4, 5, 6, 7, 8, 9),
		issuersWith(0, 0), issuersWith(9, 9), issuersWith(1, 2, 2), issuersWith(1, 1, 2), issuersWith(1, 2, 1),
		issuersWith(0, 1, 2, 2), issuersWith(0, 1, 2, 0), issuersWith(0, 1, 2, 3, 3), issuersWith(2, 2, 2, 2, 2),
		issuersWith(1, 0), issuersWith(9, 0), issuersWith(3, 2, 1, 0), issuersWith(0, 2, 1), issuersWith(0, 1, 3, 2),
		issuersWith(-1), issuersWith(10), issuersWith(-1, 0), issuersWith(9, 10), issuersWith(math.MinInt, 0, math.MaxInt),
		{{}}, {{}, {}}, slices.Repeat([]impl.Issuer{{}}, 5), slices.Repeat(four[:1], 2), slices.Repeat(four, 2),
	} {
		if impl.AreIssuers(l) {
			t.Errorf("%v are issuers", l)
		}
	}
}

func TestAreIssuersWithEveryPairOfIds(t *testing.T) {
	for a := -2; a <= 12; a++ {
		for b := -2; b <= 12; b++ {
			want := 0 <= a && a < b && b <= 9
			if got := impl.AreIssuers(issuersWith(a, b)); got != want {
				t.Errorf("AreIssuers with %d and %d = %v", a, b, got)
			}
			if got := impl.AreIssuers(issuersWith(0, a, b, 9)); got != (want && a > 0 && b < 9) {
				t.Errorf("AreIssuers with 0, %d, %d and 9 = %v", a, b, got)
			}
		}
	}
}

// The Id of an issuer that has other faults fits its place, so that these alone are to blame.
func TestAreIssuersWithOneThatIsNotValid(t *testing.T) {
	for _, bad := range noIssuers() {
		for n := 1; n <= maxIssuers; n++ {
			for place := range n {
				l := issuersWith(0, 2, 4, 6)[:n]
				id := l[place].Id
				l[place] = bad
				if !slices.Contains(noIds(), bad.Id) {
					l[place].Id = id
				}
				if impl.AreIssuers(l) {
					t.Errorf("%v are issuers", l)
				}
			}
		}
	}
}

func TestFindIssuer(t *testing.T) {
	four := someIssuers()
	for _, c := range []struct {
		l    []impl.Issuer
		id   int
		want int
	}{
		{nil, 0, -1},
		{nil, -1, -1},
		{[]impl.Issuer{}, 1, -1},
		{four, 0, 0},
		{four, 1, 1},
		{four, 4, 2},
		{four, 9, 3},
		{four, 2, -1},
		{four, 8, -1},
		{four, -1, -1},
		{four, 10, -1},
		{four, 1 << 32, -1},
		{four, math.MinInt, -1},
		{four, math.MaxInt, -1},
		{four[:1], 0, 0},
		{four[1:], 0, -1},
		{four[1:], 1, 0},
		{four[:3], 9, -1},
		{issuersWith(3, 3), 3, 0},
		{issuersWith(1, 3, 3), 3, 1},
		{issuersWith(3, 1, 3), 3, 0},
		{issuersWith(3, 1, 3), 1, 1},
		{issuersWith(1, 2, 3, 3, 3, 2), 3, 2},
		{issuersWith(1, 2, 3, 3, 3, 2), 2, 1},
		{issuersWith(9, 5, 0), 9, 0},
		{issuersWith(9, 5, 0), 5, 1},
		{issuersWith(9, 5, 0), 0, 2},
		{issuersWith(0, 1, 2, 3, 4, 5, 6, 7, 8, 9), 9, 9},
		{issuersWith(-1, 10), -1, 0},
		{issuersWith(-1, 10), 10, 1},
		{issuersWith(math.MinInt, math.MaxInt), math.MaxInt, 1},
		{issuersWith(math.MinInt, math.MaxInt), math.MinInt, 0},
		{[]impl.Issuer{{}}, 0, 0},
		{[]impl.Issuer{{}}, 1, -1},
		{[]impl.Issuer{{Id: 2, Kinds: []int{5}, Secret: -1}, four[0], {Id: 2, Kinds: []int{1}, Secret: 3}}, 2, 0},
	} {
		if got := impl.FindIssuer(c.l, c.id); got != c.want {
			t.Errorf("FindIssuer(%v, %d) = %d, want %d", c.l, c.id, got, c.want)
		}
	}
}

// In every list of four Ids, the first place is the one to which none before it is equal.
func TestFindIssuerInEveryShortList(t *testing.T) {
	for code := range 4 * 4 * 4 * 4 {
		ids := []int{code % 4, code / 4 % 4, code / 16 % 4, code / 64}
		for id := -1; id <= 4; id++ {
			if got := impl.FindIssuer(issuersWith(ids...), id); got != slices.Index(ids, id) {
				t.Errorf("FindIssuer of %d among %v = %d", id, ids, got)
			}
		}
	}
}

func TestFactInts(t *testing.T) {
	f := impl.Fact{Kind: 1, Subject: 10, Value: 3, Issuer: 7, At: 5, Until: 20}
	if got := impl.FactInts(f); !slices.Equal(got, []int{1, 10, 3, 7, 5, 20}) {
		t.Errorf("FactInts(%v) = %v", f, got)
	}
	if got := impl.FactInts(impl.Fact{}); !slices.Equal(got, []int{0, 0, 0, 0, 0, 0}) {
		t.Errorf("FactInts of the zero fact = %v", got)
	}
	for _, f := range slices.Concat(someFacts(), noFacts(), listedClaims()) {
		want := []int{f.Kind, f.Subject, f.Value, f.Issuer, f.At, f.Until}
		if got := impl.FactInts(f); !slices.Equal(got, want) {
			t.Errorf("FactInts(%v) = %v", f, got)
		}
		for _, d := range []int{1, -1, 1 << 40} {
			for part, g := range changedInOnePart(f, d) {
				other := slices.Clone(want)
				other[part] += d
				if got := impl.FactInts(g); !slices.Equal(got, other) {
					t.Errorf("FactInts(%v) = %v", g, got)
				}
			}
		}
	}
}

func TestFactIntsAreNewEachTime(t *testing.T) {
	f := someFacts()[0]
	first := impl.FactInts(f)
	spoilInts(first)
	if got := impl.FactInts(f); !slices.Equal(got, []int{1, 10, 3, 1, 5, 20}) {
		t.Errorf("FactInts(%v) = %v", f, got)
	}
}

// The marks are written out, as they were worked out by the formula of the document.
func TestStateFact(t *testing.T) {
	for _, c := range []struct {
		x    impl.Issuer
		f    impl.Fact
		mark int
	}{
		{impl.Issuer{Id: 1, Kinds: []int{1, 3}, Secret: 9}, impl.Fact{Kind: 1, Subject: 10, Value: 1, Issuer: 7, At: 3, Until: 9}, 1717941913},
		{impl.Issuer{Id: 0, Kinds: []int{1}, Secret: 1}, impl.Fact{Kind: 1, Subject: 19, Value: 5, Issuer: 0, At: 0, Until: 0}, 594494218},
		{impl.Issuer{Id: 9, Kinds: []int{2}, Secret: modulus - 1}, impl.Fact{Kind: 2, Subject: 10, Value: 29, Issuer: 1, At: 0, Until: maxTime}, 2114142112},
		{impl.Issuer{Id: 4, Kinds: []int{2, 4}, Secret: 101}, impl.Fact{Kind: 2, Subject: 15, Value: 20, Issuer: 4, At: 5, Until: 5}, 1614774729},
		{impl.Issuer{Id: 3, Kinds: []int{3}, Secret: 77}, impl.Fact{Kind: 3, Subject: 27, Value: 0, Issuer: 9, At: maxTime, Until: maxTime}, 1511156347},
		{impl.Issuer{Id: 7, Kinds: []int{1, 2, 3, 4}, Secret: 12345}, impl.Fact{Kind: 3, Subject: 20, Value: 3, Issuer: 0, At: 1, Until: 2}, 121358110},
		{impl.Issuer{Id: 5, Kinds: []int{4}, Secret: 2}, impl.Fact{Kind: 4, Subject: 39, Value: 3, Issuer: 5, At: maxTime - 1, Until: maxTime}, 286051307},
		{impl.Issuer{Id: 2, Kinds: []int{1, 2, 3, 4}, Secret: 103}, impl.Fact{Kind: 4, Subject: 30, Value: 0, Issuer: -1, At: 0, Until: 1}, 271624602},
		{impl.Issuer{Id: 6, Kinds: []int{1, 4}, Secret: 500}, impl.Fact{Kind: 1, Subject: 10, Value: 0, Issuer: 10, At: 7, Until: 8}, 543401864},
	} {
		want := impl.Stated{Fact: c.f, Mark: c.mark}
		want.Fact.Issuer = c.x.Id
		got, ok := impl.StateFact(c.x, c.f)
		if !ok || got != want {
			t.Errorf("StateFact(%v, %v) = %v, %v, want %v", c.x, c.f, got, ok, want)
		}
	}
}

// A fact of each kind is stated with each list of kinds: it takes its own kind to state it.
func TestWhatEachIssuerMayState(t *testing.T) {
	for id := range 10 {
		for _, kinds := range append(listsOfKinds(), nil) {
			for _, secret := range keysOfIssuers() {
				x := impl.Issuer{Id: id, Kinds: kinds, Secret: secret}
				for _, f := range someFacts() {
					want, may := sealedBy(x, f), slices.Contains(kinds, f.Kind)
					if !may {
						want = impl.Stated{}
					}
					if got, ok := impl.StateFact(x, f); ok != may || got != want {
						t.Errorf("StateFact(%v, %v) = %v, %v, want %v", x, f, got, ok, want)
					}
					if got := impl.IsBelieved([]impl.Issuer{x}, sealedBy(x, f)); got != may {
						t.Errorf("IsBelieved of %v by %v = %v", f, x, got)
					}
				}
			}
		}
	}
}

// The Id takes the place of the fact's Issuer, so that it does not matter which number stood there.
func TestStateFactWithAnyNumberAsIssuer(t *testing.T) {
	for _, x := range []impl.Issuer{someIssuers()[0], someIssuers()[3]} {
		for _, f := range someFacts() {
			want := sealedBy(x, f)
			for _, issuer := range append(noIds(), 0, 1, 2, 3, 4, 5, 6, 7, 8, 9) {
				f.Issuer = issuer
				if got, ok := impl.StateFact(x, f); !ok || got != want {
					t.Errorf("StateFact(%v, %v) = %v, %v, want %v", x, f, got, ok, want)
				}
			}
		}
	}
}

// noFactsOfAnyIssuer leaves out the facts of which only the Issuer is wrong.
func noFactsOfAnyIssuer() []impl.Fact {
	var facts []impl.Fact
	for _, f := range noFacts() {
		f.Issuer = 1
		if f != someFacts()[0] {
			facts = append(facts, f)
		}
	}
	return facts
}

func TestStateFactThatIsNotValid(t *testing.T) {
	if len(noFactsOfAnyIssuer()) != len(noFacts())-4 {
		t.Fatal(len(noFactsOfAnyIssuer()))
	}
	for _, x := range slices.Concat(someIssuers(), issuersWith(1), noIssuers()) {
		for _, f := range append(noFactsOfAnyIssuer(), impl.Fact{}) {
			if got, ok := impl.StateFact(x, f); ok || got != (impl.Stated{}) {
				t.Errorf("StateFact(%v, %v) = %v, %v", x, f, got, ok)
			}
		}
	}
}

func TestStateFactByWhoIsNoIssuer(t *testing.T) {
	for _, x := range append(noIssuers(), impl.Issuer{}, impl.Issuer{Kinds: []int{1, 2, 3, 4}}) {
		for _, f := range append(someFacts(), listedClaims()...) {
			if got, ok := impl.StateFact(x, f); ok || got != (impl.Stated{}) {
				t.Errorf("StateFact(%v, %v) = %v, %v", x, f, got, ok)
			}
			if s := sealedBy(x, f); impl.IsBelieved([]impl.Issuer{x}, s) {
				t.Errorf("%v is believed of %v", s, x)
			}
		}
	}
}

// statements holds all that the issuers may state of the facts.
func statements(l []impl.Issuer, facts []impl.Fact) []impl.Stated {
	var list []impl.Stated
	for _, x := range l {
		for _, f := range facts {
			if slices.Contains(x.Kinds, f.Kind) {
				list = append(list, sealedBy(x, f))
			}
		}
	}
	return list
}

func TestIsBelieved(t *testing.T) {
	four := someIssuers()
	all := statements(four, append(someFacts(), listedClaims()...))
	if len(all) != 3*(4+32) {
		t.Fatalf("%d statements", len(all))
	}
	for _, s := range all {
		if !impl.IsBelieved(four, s) {
			t.Errorf("%v is not believed", s)
		}
		for _, l := range [][]impl.Issuer{nil, {}, {{}}} {
			if impl.IsBelieved(l, s) {
				t.Errorf("%v is believed of %v", s, l)
			}
		}
		place := slices.IndexFunc(four, func(x impl.Issuer) bool { return x.Id == s.Fact.Issuer })
		if others := slices.Delete(someIssuers(), place, place+1); impl.IsBelieved(others, s) {
			t.Errorf("%v is believed of %v", s, others)
		}
		if !impl.IsBelieved(four[place:place+1], s) {
			t.Errorf("%v is not believed of its issuer alone", s)
		}
	}
}

func TestChangedMarksAreNotBelieved(t *testing.T) {
	four := someIssuers()
	for _, s := range statements(four, append(someFacts(), listedClaims()...)) {
		for _, m := range []int{
			s.Mark - 1, s.Mark + 1, s.Mark - modulus, s.Mark + modulus, -s.Mark, s.Mark + 1<<32, s.Mark ^ 1<<30, s.Mark * 2,
			s.Mark + math.MinInt, s.Mark * modulus, 0, 1, 11, -1, modulus, math.MinInt, math.MaxInt,
		} {
			changed := s
			changed.Mark = m
			if impl.IsBelieved(four, changed) != (m == s.Mark) {
				t.Errorf("with the mark %d, %v is believed: %v", m, s, impl.IsBelieved(four, changed))
			}
		}
	}
}

// With each part of its fact changed, and the mark of the fact as it was. The modulus does not change the hash.
func TestChangedFactsAreNotBelieved(t *testing.T) {
	four := someIssuers()
	for _, s := range statements(four, append(someFacts(), listedClaims()...)) {
		for _, d := range []int{1, -1, 2, 3, 5, -4, 10, -10, 90, modulus, -modulus, 1 << 32, math.MinInt} {
			for part, f := range changedInOnePart(s.Fact, d) {
				if changed := (impl.Stated{Fact: f, Mark: s.Mark}); impl.IsBelieved(four, changed) {
					t.Errorf("with part %d changed, %v is believed", part, changed)
				}
			}
		}
	}
}

func TestIsBelievedOfAChangedIssuer(t *testing.T) {
	for _, f := range someFacts() {
		x := impl.Issuer{Id: 4, Kinds: []int{1, 2, 3, 4}, Secret: 77}
		s := sealedBy(x, f)
		for _, kinds := range append(listsOfKinds(), nil) {
			y := impl.Issuer{Id: 4, Kinds: kinds, Secret: 77}
			if got := impl.IsBelieved([]impl.Issuer{y}, s); got != slices.Contains(kinds, f.Kind) {
				t.Errorf("of who may state %v, %v is believed: %v", kinds, s, got)
			}
		}
		for _, kinds := range noListsOfKinds() {
			y := impl.Issuer{Id: 4, Kinds: kinds, Secret: 77}
			if impl.IsBelieved([]impl.Issuer{y}, s) {
				t.Errorf("%v is believed of %v", s, y)
			}
		}
		for _, secret := range slices.Concat(keysOfIssuers(), noKeysOfIssuers(), []int{76, 78, 77 + modulus, 77 - modulus}) {
			y := impl.Issuer{Id: 4, Kinds: []int{1, 2, 3, 4}, Secret: secret}
			if impl.IsBelieved([]impl.Issuer{y}, s) {
				t.Errorf("%v is believed of %v", s, y)
			}
		}
		for id := -1; id <= 10; id++ {
			y := impl.Issuer{Id: id, Kinds: []int{1, 2, 3, 4}, Secret: 77}
			if impl.IsBelieved([]impl.Issuer{y}, s) != (id == 4) {
				t.Errorf("of the issuer %d, %v is believed: %v", id, s, id != 4)
			}
		}
	}
}

// A mark that is right does not help where the issuer may not state the fact, or the fact is not valid.
func TestRightMarksOfWhatMayNotBeStated(t *testing.T) {
	l := someIssuers()
	for _, x := range l {
		for _, f := range someFacts() {
			may := slices.Contains(x.Kinds, f.Kind)
			if got := impl.IsBelieved(l, sealedBy(x, f)); got != may {
				t.Errorf("IsBelieved of %v by %v = %v", f, x, got)
			}
		}
		for _, f := range noFactsOfAnyIssuer() {
			if s := sealedBy(x, f); impl.IsBelieved(l, s) {
				t.Errorf("%v is believed", s)
			}
		}
	}
}

// Another issuer's secret is of no use, also if that issuer may state the same kinds.
func TestMarksOfAnotherIssuer(t *testing.T) {
	l := someIssuers()
	for _, x := range l {
		for _, y := range l {
			for _, f := range someFacts() {
				want := x.Id == y.Id && slices.Contains(x.Kinds, f.Kind)
				if s := sealed(x.Id, y.Secret, f); impl.IsBelieved(l, s) != want {
					t.Errorf("%v in the name of %d by %d is believed: %v", f, x.Id, y.Id, !want)
				}
			}
		}
	}
}

// The zero statement names the issuer 0, and equals what StateFact returns when it refuses.
func TestTheZeroStatementIsNotBelieved(t *testing.T) {
	for _, l := range [][]impl.Issuer{
		nil, {{}}, someIssuers(), issuersWith(0), {{Id: 0, Secret: 5}}, {{Id: 0, Kinds: []int{0}, Secret: 5}}, {{Id: 0, Kinds: []int{1}}},
	} {
		if impl.IsBelieved(l, impl.Stated{}) {
			t.Errorf("the zero statement is believed of %v", l)
		}
		if store, n := impl.TakeStated(l, nil, make([]impl.Stated, 3)); n != 0 || len(store) != 0 {
			t.Errorf("of %v, zero statements were taken: %v, %d", l, store, n)
		}
	}
}

// The list of issuers need not be valid: the first issuer with the Id counts, and this one only.
func TestIsBelievedOfAnyList(t *testing.T) {
	f := someFacts()[0]
	x := impl.Issuer{Id: 3, Kinds: []int{1}, Secret: 31}
	sameId := impl.Issuer{Id: 3, Kinds: []int{1}, Secret: 32}
	noKinds := impl.Issuer{Id: 3, Secret: 31}
	noKey := impl.Issuer{Id: 3, Kinds: []int{1}}
	bad := impl.Issuer{Id: 8, Kinds: []int{9, 9}, Secret: -1}
	for _, c := range []struct {
		l    []impl.Issuer
		want bool
	}{
		{[]impl.Issuer{x}, true},
		{[]impl.Issuer{x, x}, true},
		{[]impl.Issuer{x, sameId}, true},
		{[]impl.Issuer{sameId, x}, false},
		{[]impl.Issuer{x, noKinds}, true},
		{[]impl.Issuer{noKinds, x}, false},
		{[]impl.Issuer{x, noKey}, true},
		{[]impl.Issuer{noKey, x}, false},
		{[]impl.Issuer{x, bad}, true},
		{[]impl.Issuer{bad, x}, true},
		{[]impl.Issuer{bad, bad, bad, bad, bad, x}, true},
		{append(issuersWith(9, 8, 7, 6, 5), x), true},
		{append(issuersWith(9, 3, 7), x), false},
		{append([]impl.Issuer{x}, issuersWith(2, 1, 0, 3, 4)...), true},
		{issuersWith(0, 1, 2, 3, 4), false},
	} {
		if got := impl.IsBelieved(c.l, sealedBy(x, f)); got != c.want {
			t.Errorf("IsBelieved of %v = %v", c.l, got)
		}
	}
}

func TestTakeStated(t *testing.T) {
	l := issuersWith(0, 9)
	facts := listedClaims()
	wrong := func(f impl.Fact) impl.Stated { return withWrongMark(says(f)) }
	newer, older, longer := timed(facts[1], 101, 150), timed(facts[1], 99, 250), timed(facts[1], 100, 201)
	for name, c := range map[string]struct {
		s     []impl.Fact
		list  []impl.Stated
		want  []impl.Fact
		count int
	}{
		"nothing":               {nil, nil, nil, 0},
		"nothing to add":        {facts[:3], []impl.Stated{}, facts[:3], 0},
		"one":                   {nil, []impl.Stated{says(facts[4])}, facts[4:5], 1},
		"twice":                 {nil, []impl.Stated{says(facts[4]), says(facts[4])}, facts[4:5], 2},
		"many times":            {nil, slices.Repeat([]impl.Stated{says(facts[4])}, 40), facts[4:5], 40},
		"in order":              {nil, []impl.Stated{says(facts[0]), says(facts[1]), says(facts[2])}, facts[:3], 3},
		"out of order":          {nil, []impl.Stated{says(facts[2]), says(facts[0]), says(facts[1])}, facts[:3], 3},
		"in front":              {facts[1:3], []impl.Stated{says(facts[0])}, facts[:3], 1},
		"between":               {[]impl.Fact{facts[0], facts[2]}, []impl.Stated{says(facts[1])}, facts[:3], 1},
		"behind":                {facts[:2], []impl.Stated{says(facts[2])}, facts[:3], 1},
		"the same":              {facts[:3], []impl.Stated{says(facts[1])}, facts[:3], 1},
		"newer":                 {facts[:3], []impl.Stated{says(newer)}, []impl.Fact{facts[0], newer, facts[2]}, 1},
		"older":                 {facts[:3], []impl.Stated{says(older)}, facts[:3], 1},
		"longer":                {facts[:3], []impl.Stated{says(longer)}, []impl.Fact{facts[0], longer, facts[2]}, 1},
		"newer, then older":     {nil, []impl.Stated{says(newer), says(facts[1]), says(older)}, []impl.Fact{newer}, 3},
		"older, then newer":     {nil, []impl.Stated{says(older), says(facts[1]), says(newer)}, []impl.Fact{newer}, 3},
		"newer not believed":    {facts[:3], []impl.Stated{wrong(newer)}, facts[:3], 0},
		"none believed":         {facts[:1], []impl.Stated{wrong(facts[1]), wrong(facts[2])}, facts[:1], 0},
		"the first believed":    {nil, []impl.Stated{says(facts[0]), wrong(facts[1]), wrong(facts[2])}, facts[:1], 1},
		"the last believed":     {nil, []impl.Stated{wrong(facts[0]), wrong(facts[1]), says(facts[2])}, facts[2:3], 1},
		"not the one between":   {nil, []impl.Stated{says(facts[0]), wrong(facts[1]), says(facts[2])}, []impl.Fact{facts[0], facts[2]}, 2},
		"full, a new claim":     {facts[:30], []impl.Stated{says(facts[30])}, facts[:30], 0},
		"full, two new claims":  {facts[2:], []impl.Stated{says(facts[0]), says(facts[1])}, facts[2:], 0},
		"full, a known claim":   {facts[:30], []impl.Stated{says(facts[30]), says(newer), says(facts[31])}, with(without(facts[:30], 1), 1, newer), 1},
		"full, the same claims": {facts[:30], []impl.Stated{says(facts[0]), says(facts[29]), says(facts[30])}, facts[:30], 2},
		"nearly full":           {facts[:29], []impl.Stated{says(facts[31]), says(facts[30]), says(facts[29])}, slices.Concat(facts[:29], facts[31:]), 1},
		"nearly full, wrong":    {facts[:29], []impl.Stated{wrong(facts[31]), says(facts[30]), says(facts[29])}, slices.Concat(facts[:29], facts[30:31]), 1},
	} {
		got, n := impl.TakeStated(l, c.s, c.list)
		if n != c.count || !slices.Equal(got, c.want) || !impl.IsStore(got) {
			t.Errorf("%s: TakeStated = %v, %d, want %v, %d", name, got, n, c.want, c.count)
		}
	}
}

// Five statements, each of them believed or not, in every order.
func TestTakeStatedWhateverIsBelieved(t *testing.T) {
	l := issuersWith(0, 9)
	facts := listedClaims()[:5]
	for _, order := range orders([]int{0, 1, 2, 3, 4}) {
		for believed := range 1 << 5 {
			var list []impl.Stated
			for _, i := range order {
				s := says(facts[i])
				if believed>>i&1 == 0 {
					s = withWrongMark(s)
				}
				list = append(list, s)
			}
			var want []impl.Fact
			for i, f := range facts {
				if believed>>i&1 == 1 {
					want = append(want, f)
				}
			}
			got, n := impl.TakeStated(l, nil, list)
			if n != len(want) || !slices.Equal(got, want) {
				t.Errorf("in the order %v, TakeStated = %v, %d, want %v", order, got, n, want)
			}
		}
	}
}

// orders holds all orders of the numbers.
func orders(numbers []int) [][]int {
	if len(numbers) == 0 {
		return [][]int{{}}
	}
	var all [][]int
	for i, first := range numbers {
		rest := slices.Delete(slices.Clone(numbers), i, i+1)
		for _, order := range orders(rest) {
			all = append(all, append([]int{first}, order...))
		}
	}
	return all
}

func TestTakeStatedWithoutIssuersWhoMay(t *testing.T) {
	facts := listedClaims()
	list := statements(issuersWith(0, 9), facts)
	mayNot := issuersWith(0, 9)
	mayNot[0].Kinds, mayNot[1].Kinds = nil, []int{4}
	for _, c := range []struct {
		l     []impl.Issuer
		kinds []int
	}{
		{nil, nil},
		{[]impl.Issuer{}, nil},
		{issuersWith(9, 0), nil},
		{issuersWith(1, 8), nil},
		{mayNot, []int{4}},
	} {
		var want []impl.Fact
		for _, s := range list {
			if slices.Contains(c.kinds, s.Fact.Kind) && s.Fact.Issuer == 9 {
				want = append(want, s.Fact)
			}
		}
		got, n := impl.TakeStated(c.l, facts[:2], list)
		if wanted := impl.MergeStores(facts[:2], want); n != len(want) || !slices.Equal(got, wanted) {
			t.Errorf("of %v, TakeStated = %v, %d, want %v, %d", c.l, got, n, wanted, len(want))
		}
	}
}

// Nothing can be put into a list that is no store, so that it comes back as it was.
func TestTakeStatedIntoWhatIsNoStore(t *testing.T) {
	l := issuersWith(0, 9)
	list := statements(l, listedClaims())
	for _, s := range noStores() {
		for _, some := range [][]impl.Stated{nil, list[:1], list} {
			if got, n := impl.TakeStated(l, s, some); n != 0 || !slices.Equal(got, s) {
				t.Errorf("TakeStated into %v = %v, %d", s, got, n)
			}
		}
	}
}

// Of ten statements three are spoiled, and issuer 9 may not state every kind; a second book tells what must be kept.
func TestTakeManyStatements(t *testing.T) {
	for seed := range uint32(64) {
		l := issuersWith(0, 9)
		l[1].Kinds = listsOfKinds()[seed%16]
		kept, count := book{}, 0
		for _, f := range drawnFacts(seed+5000, int(seed)) {
			kept.put(f)
		}
		s := kept.store()
		var list []impl.Stated
		for i, f := range drawnFacts(seed, 150) {
			stated := says(f)
			switch i % 10 {
			case 0:
				stated = withWrongMark(stated)
			case 3:
				stated = sealed(f.Issuer, 60, f)
			case 6:
				stated.Fact.Until++
			default:
				may := f.Issuer == 0 || slices.Contains(l[1].Kinds, f.Kind)
				if may && kept.put(f) {
					count++
				}
			}
			list = append(list, stated)
		}
		got, n := impl.TakeStated(l, s, list)
		if n != count || !slices.Equal(got, kept.store()) {
			t.Errorf("seed %d: TakeStated = %v, %d, want %v, %d", seed, got, n, kept.store(), count)
		}
	}
}

func TestIssuersAndStatementsAreAsTheyWere(t *testing.T) {
	facts := slices.Concat(someFacts(), noFacts(), listedClaims())
	for _, issuers := range [][]impl.Issuer{nil, someIssuers(), append(noIssuers(), issuersWith(3, 3)...)} {
		list := append(statements(issuers, facts), impl.Stated{})
		for i := range list {
			list[i].Mark += i % 3 / 2
		}
		l, stated := sparedIssuers(issuers), sparedStatements(list)
		impl.AreIssuers(l)
		for i, x := range l {
			impl.IsIssuer(x)
			impl.FindIssuer(l, x.Id+i%2)
			for _, f := range facts {
				impl.StateFact(x, f)
			}
		}
		for _, s := range stated {
			impl.IsBelieved(l, s)
		}
		for _, kept := range append(noStores(), nil, listedClaims()[:5], listedClaims()[:29], listedClaims()[:maxFacts]) {
			s := sparedFacts(kept)
			for _, some := range [][]impl.Stated{nil, stated[:1], stated} {
				got, _ := impl.TakeStated(l, s, some)
				spoilFacts(got)
				if !areFactsUntouched(s, kept) {
					t.Fatalf("TakeStated changed %v", kept)
				}
			}
		}
		if !areIssuersUntouched(l, issuers) || !areStatementsUntouched(stated, list) {
			t.Errorf("%v or what they stated was changed", issuers)
		}
	}
}

// A store that was returned stays as it is while others are made from it.
func TestTakenStoresShareNoMemory(t *testing.T) {
	l := issuersWith(0, 9)
	facts := listedClaims()
	s, n := impl.TakeStated(l, facts[:3], []impl.Stated{says(facts[4]), says(facts[3])})
	kept := slices.Clone(s)
	if n != 2 || !slices.Equal(kept, facts[:5]) {
		t.Fatalf("TakeStated = %v, %d", s, n)
	}
	left, _ := impl.TakeStated(l, s, []impl.Stated{says(facts[5])})
	right, _ := impl.TakeStated(l, s, []impl.Stated{says(facts[6])})
	if !slices.Equal(left, facts[:6]) || !slices.Equal(right, append(slices.Clone(kept), facts[6])) {
		t.Errorf("%v and %v were made from %v", left, right, s)
	}
	spoilFacts(left)
	spoilFacts(right)
	if !slices.Equal(s, kept) {
		t.Errorf("%v has become %v", kept, s)
	}
}
