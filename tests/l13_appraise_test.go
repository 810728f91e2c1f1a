package tests

import (
	"math"
	"slices"
	"testing"

	"loop.example/g00594/impl"
)

const maxAllowed = 8

// verdictsInOrder holds the verdicts of the lists Good, Old and Bad.
var verdictsInOrder = [3]int{3, 2, 0}

func listsOf(a impl.Allowed) [3][]int {
	return [3][]int{a.Good, a.Old, a.Bad}
}

// rules holds Good, Old and Bad, as far as they are given.
func rules(version int, lists ...[]int) impl.Allowed {
	l := append(slices.Clone(lists), nil, nil, nil)
	return impl.Allowed{Version: version, Good: l[0], Old: l[1], Bad: l[2]}
}

func withList(a impl.Allowed, place int, list []int) impl.Allowed {
	l := listsOf(a)
	l[place] = list
	return rules(a.Version, l[:]...)
}

func withVersion(a impl.Allowed, version int) impl.Allowed {
	a.Version = version
	return a
}

func sameRules(a, b impl.Allowed) bool {
	return a.Version == b.Version && slices.Equal(a.Good, b.Good) && slices.Equal(a.Old, b.Old) && slices.Equal(a.Bad, b.Bad)
}

func countedFrom(first, n int) []int {
	list := countedTo(n)
	for i := range list {
		list[i] += first - 1
	}
	return list
}

func fullRules() impl.Allowed {
	return rules(5, countedFrom(10, maxAllowed), countedFrom(18, maxAllowed), countedFrom(2, maxAllowed))
}

func someAllowed() []impl.Allowed {
	list := []impl.Allowed{
		{},
		rules(1, []int{}, []int{}, []int{}),
		rules(2, []int{1, 2, 5}, []int{3}, []int{9}),
		rules(3, []int{1}, nil, []int{9}),
		rules(0, []int{0, 2, 98}, []int{1, 50, 99}, []int{3, 51, 97}),
		rules(math.MaxInt, []int{0, 99}, []int{1, 98}, []int{2, 97}),
		fullRules(),
		rules(4, countedFrom(92, maxAllowed), countedFrom(0, maxAllowed), countedFrom(50, maxAllowed)),
	}
	for place := range 3 {
		for _, l := range [][]int{{0}, {99}, {0, 99}, {7, 8, 9}, countedTo(maxAllowed), countedFrom(92, maxAllowed)} {
			list = append(list, withList(rules(7), place, l))
		}
	}
	return list
}

// badLists holds lists of rules that are not valid, most of them for one reason only.
func badLists() [][]int {
	lists := [][]int{
		countedTo(maxAllowed + 1), countedFrom(91, maxAllowed+1), countedFrom(0, 100), make([]int, maxAllowed+1),
		{1, 1}, {0, 0}, {99, 99}, {1, 1, 2}, {1, 2, 2}, {1, 2, 2, 3}, {1, 2, 3, 3}, slices.Repeat([]int{4}, maxAllowed),
		{2, 1}, {99, 0}, {3, 2, 1}, {1, 3, 2}, {2, 1, 3}, {1, 2, 1}, {8, 7, 6, 5, 4, 3, 2, 1}, {1, 2, 3, 4, 5, 6, 8, 7},
	}
	for _, m := range noElements() {
		lists = append(lists, []int{m}, []int{m, 5}, []int{5, m}, []int{1, m, 5})
	}
	return lists
}

// overlapping holds rules in which one number stands in two lists or in all three, each time at other places.
func overlapping() []impl.Allowed {
	apart := [3][]int{{10, 20, 30}, {40, 50, 60}, {70, 80, 90}}
	put := func(list []int, place, m int) []int {
		list = slices.Clone(list)
		list[place] = m
		slices.Sort(list)
		return list
	}
	var all []impl.Allowed
	for _, m := range []int{0, 15, 35, 55, 75, 99} {
		for set := range 1 << 3 {
			for places := range 27 {
				l := apart
				isIn := 0
				for i, place := range []int{places % 3, places / 3 % 3, places / 9} {
					if set>>i&1 == 1 {
						l[i] = put(l[i], place, m)
						isIn++
					}
				}
				if isIn >= 2 {
					all = append(all, rules(1, l[:]...))
				}
			}
		}
	}
	return all
}

// noAllowed holds rules that are not valid, most of them for one reason only.
func noAllowed() []impl.Allowed {
	list := overlapping()
	for _, version := range []int{-1, -2, -100, math.MinInt} {
		for _, a := range someAllowed() {
			list = append(list, withVersion(a, version))
		}
	}
	for place := range 3 {
		for _, bad := range badLists() {
			list = append(list, withList(rules(1), place, bad), withList(rules(1, []int{60}, []int{70}, []int{80}), place, bad))
		}
	}
	return list
}

// smallRules holds all rules whose lists are of at most two of these numbers, in any order.
func smallRules(numbers ...int) []impl.Allowed {
	lists := [][]int{nil}
	for _, m := range numbers {
		lists = append(lists, []int{m})
		for _, n := range numbers {
			lists = append(lists, []int{m, n})
		}
	}
	var all []impl.Allowed
	for _, good := range lists {
		for _, old := range lists {
			for _, bad := range lists {
				all = append(all, rules(0, good, old, bad))
			}
		}
	}
	return all
}

// opinion is a second appraisal: the verdict on each number of a list.
type opinion map[int]int

// opinionOn writes the lists over one another, and the one that counts first last.
func opinionOn(a impl.Allowed) opinion {
	o := opinion{}
	for i, list := range listsOf(a) {
		for _, m := range list {
			o[m] = verdictsInOrder[i]
		}
	}
	return o
}

func (o opinion) of(m int) int {
	if verdict, isKnown := o[m]; isKnown {
		return verdict
	}
	return 1
}

func (o opinion) ofLog(log []int) int {
	met := []int{3}
	for _, m := range log {
		met = append(met, o.of(m))
	}
	return slices.Min(met)
}

// mayBeAllowed counts the numbers of all lists, each once, so that none of them may be missing then.
func mayBeAllowed(a impl.Allowed) bool {
	distinct := map[int]bool{}
	count := 0
	for _, list := range listsOf(a) {
		if len(list) > maxAllowed || !slices.IsSorted(list) {
			return false
		}
		for _, m := range list {
			if m < 0 || m > 99 {
				return false
			}
			distinct[m] = true
			count++
		}
	}
	return a.Version >= 0 && len(distinct) == count
}

// appraisedAround holds the numbers around those that a log may hold, and others that are far from them.
func appraisedAround() []int {
	return slices.Concat(countedFrom(-5, 110), noElements(), atTheEnds())
}

func checkVerdict(t *testing.T, a impl.Allowed, m, want int) {
	t.Helper()
	if got := impl.AppraiseOne(a, m); got != want {
		t.Errorf("AppraiseOne(%v, %d) = %d, want %d", a, m, got, want)
	}
}

func checkLogVerdict(t *testing.T, a impl.Allowed, log []int, want int) {
	t.Helper()
	if got := impl.AppraiseLog(a, log); got != want {
		t.Errorf("AppraiseLog(%v, %v) = %d, want %d", a, log, got, want)
	}
}

func checkReplaced(t *testing.T, a, b, want impl.Allowed, wantOk bool) {
	t.Helper()
	if got, ok := impl.ReplaceAllowed(a, b); ok != wantOk || !sameRules(got, want) {
		t.Errorf("ReplaceAllowed(%v, %v) = %v, %v, want %v, %v", a, b, got, ok, want, wantOk)
	}
}

func checkStricter(t *testing.T, a, b impl.Allowed, want bool) {
	t.Helper()
	if got := impl.IsStricter(a, b); got != want {
		t.Errorf("IsStricter(%v, %v) = %v", a, b, got)
	}
}

func TestVerdicts(t *testing.T) {
	if impl.ApBad != 0 || impl.ApUnknown != 1 || impl.ApOld != 2 || impl.ApGood != 3 || impl.MaxAllowed != maxAllowed {
		t.Error(impl.ApBad, impl.ApUnknown, impl.ApOld, impl.ApGood, impl.MaxAllowed)
	}
}

func TestIsAllowed(t *testing.T) {
	for _, a := range someAllowed() {
		for _, version := range []int{a.Version, 0, 1, math.MaxInt} {
			if a := withVersion(a, version); !impl.IsAllowed(a) {
				t.Errorf("%v is not valid", a)
			}
		}
	}
	for _, a := range noAllowed() {
		if impl.IsAllowed(a) {
			t.Errorf("%v is valid", a)
		}
	}
}

func TestVersionsOfRules(t *testing.T) {
	for version := -1000; version <= 1000; version++ {
		for _, a := range []impl.Allowed{rules(version), rules(version, []int{1, 2, 5}, []int{3}, []int{9})} {
			if got := impl.IsAllowed(a); got != (version >= 0) {
				t.Errorf("IsAllowed(%v) = %v", a, got)
			}
		}
	}
}

func TestRulesOfEveryLength(t *testing.T) {
	for n := range 101 {
		for place := range 3 {
			for _, first := range []int{0, 100 - n} {
				a := withList(rules(1), place, countedFrom(first, n))
				if got := impl.IsAllowed(a); got != (n <= maxAllowed) {
					t.Errorf("IsAllowed(%v) = %v", a, got)
				}
			}
		}
	}
	// What stands in the spare capacity is no part of a list.
	whole := slices.Concat(countedTo(maxAllowed), []int{1, 100, -1})
	for n := range maxAllowed + 1 {
		for place := range 3 {
			if a := withList(rules(1), place, whole[:n]); !impl.IsAllowed(a) {
				t.Errorf("%v is not valid", a)
			}
		}
	}
}

func TestEachListHasALengthOfItsOwn(t *testing.T) {
	for lengths := range 1000 {
		good, old, bad := lengths%10, lengths/10%10, lengths/100
		a := rules(0, countedFrom(0, good), countedFrom(30, old), countedFrom(60, bad))
		if got := impl.IsAllowed(a); got != (max(good, old, bad) <= maxAllowed) {
			t.Errorf("IsAllowed of %d, %d and %d numbers = %v", good, old, bad, got)
		}
	}
}

// Every number is put at every place of every list, so that most lists are no longer in order, or have it twice.
func TestRulesWithEveryNumber(t *testing.T) {
	for _, a := range []impl.Allowed{{}, rules(2, []int{1, 2, 5}, []int{3}, []int{9}), rules(3, []int{20, 40, 60}, []int{10, 50}, []int{0, 30, 70, 99}), fullRules()} {
		for i, list := range listsOf(a) {
			for place := range len(list) + 1 {
				for _, m := range appraisedAround() {
					b := withList(a, i, with(list, place, m))
					if got, want := impl.IsAllowed(b), mayBeAllowed(b); got != want {
						t.Errorf("IsAllowed(%v) = %v", b, got)
					}
				}
			}
		}
	}
}

func TestANumberMayStandInOneListOnly(t *testing.T) {
	a := fullRules()
	for i, list := range listsOf(a) {
		for _, other := range listsOf(a) {
			for place := range list {
				for _, m := range other {
					changed := slices.Clone(list)
					changed[place] = m
					slices.Sort(changed)
					b := withList(a, i, changed)
					if got := impl.IsAllowed(b); got != slices.Equal(changed, list) {
						t.Errorf("IsAllowed(%v) = %v", b, got)
					}
				}
			}
		}
	}
	for m := range 100 {
		alone := []int{m}
		for set := range 1 << 3 {
			a := impl.Allowed{}
			isIn := 0
			for place := range 3 {
				if set>>place&1 == 1 {
					a = withList(a, place, alone)
					isIn++
				}
			}
			if got := impl.IsAllowed(a); got != (isIn <= 1) {
				t.Errorf("IsAllowed(%v) = %v", a, got)
			}
		}
	}
}

func TestAllSmallRules(t *testing.T) {
	for _, a := range slices.Concat(smallRules(0, 1, 2), smallRules(-1, 0), smallRules(99, 100), smallRules(98, 99)) {
		if got, want := impl.IsAllowed(a), mayBeAllowed(a); got != want {
			t.Errorf("IsAllowed(%v) = %v", a, got)
		}
		o := opinionOn(a)
		for _, m := range []int{-2, -1, 0, 1, 2, 3, 97, 98, 99, 100, 101} {
			checkVerdict(t, a, m, o.of(m))
			for _, n := range []int{-1, 0, 1, 2, 99, 100} {
				checkLogVerdict(t, a, []int{m, n}, o.ofLog([]int{m, n}))
			}
		}
	}
}

func TestAppraiseOne(t *testing.T) {
	a := rules(2, []int{1, 2, 5}, []int{3}, []int{9})
	everywhere := rules(0, []int{1, 2, 3, 4}, []int{1, 2, 5, 6}, []int{1, 3, 5, 7})
	outside := rules(-1, []int{-1, 200, 0}, []int{100, -7}, []int{math.MinInt, 101, math.MaxInt})
	for _, c := range []struct {
		a       impl.Allowed
		m, want int
	}{
		{a, 1, 3}, {a, 2, 3}, {a, 5, 3}, {a, 3, 2}, {a, 9, 0},
		{a, 0, 1}, {a, 4, 1}, {a, 6, 1}, {a, 8, 1}, {a, 10, 1}, {a, 99, 1},
		{a, -1, 1}, {a, 100, 1}, {a, -9, 1}, {a, math.MinInt, 1}, {a, math.MaxInt, 1}, {a, 1<<32 + 9, 1},
		{impl.Allowed{}, 0, 1}, {impl.Allowed{}, 1, 1}, {impl.Allowed{}, 99, 1}, {impl.Allowed{}, -1, 1},
		// Bad counts first, and Old before Good.
		{everywhere, 1, 0}, {everywhere, 2, 2}, {everywhere, 3, 0}, {everywhere, 4, 3},
		{everywhere, 5, 0}, {everywhere, 6, 2}, {everywhere, 7, 0}, {everywhere, 8, 1}, {everywhere, 0, 1},
		// The lists are taken as they are, also where they hold what no log may hold.
		{outside, -1, 3}, {outside, 200, 3}, {outside, 0, 3}, {outside, 100, 2}, {outside, -7, 2},
		{outside, math.MinInt, 0}, {outside, 101, 0}, {outside, math.MaxInt, 0}, {outside, 1, 1}, {outside, -2, 1},
		// Nor need they be in order, or short.
		{rules(0, []int{9, 1, 5}), 1, 3},
		{rules(0, []int{9, 1, 5}), 5, 3},
		{rules(0, nil, []int{5, 5, 5}), 5, 2},
		{rules(0, nil, nil, countedFrom(0, 100)), 99, 0},
		{rules(0, countedFrom(0, 100)), 99, 3},
		{rules(0, countedFrom(0, 100), countedFrom(50, 50), countedFrom(75, 25)), 49, 3},
		{rules(0, countedFrom(0, 100), countedFrom(50, 50), countedFrom(75, 25)), 74, 2},
		{rules(0, countedFrom(0, 100), countedFrom(50, 50), countedFrom(75, 25)), 75, 0},
	} {
		checkVerdict(t, c.a, c.m, c.want)
	}
}

func TestAppraiseOneOfEveryNumber(t *testing.T) {
	for _, a := range append(someAllowed(), noAllowed()...) {
		o := opinionOn(a)
		for _, m := range appraisedAround() {
			checkVerdict(t, a, m, o.of(m))
			checkLogVerdict(t, a, []int{m}, o.of(m))
		}
	}
}

// The verdict on a number depends neither on the Version nor on the rest of its list.
func TestTheVerdictDependsOnTheListOnly(t *testing.T) {
	for place, verdict := range verdictsInOrder {
		for _, version := range []int{-1, 0, 1, math.MinInt, math.MaxInt} {
			a := withList(withVersion(fullRules(), version), place, []int{40, 60, 80})
			for _, m := range []int{40, 60, 80} {
				checkVerdict(t, a, m, verdict)
			}
			for _, m := range listsOf(fullRules())[place] {
				checkVerdict(t, a, m, 1)
			}
		}
	}
}

func TestAppraiseLog(t *testing.T) {
	a := rules(2, []int{1, 2, 5}, []int{3}, []int{9})
	overlaps := rules(0, []int{1, 2, 3, 4}, []int{1, 2, 5, 6}, []int{1, 3, 5, 7})
	for _, c := range []struct {
		a    impl.Allowed
		log  []int
		want int
	}{
		{a, nil, 3}, {a, []int{}, 3},
		{impl.Allowed{}, nil, 3}, {impl.Allowed{}, []int{}, 3}, {impl.Allowed{}, []int{0}, 1}, {impl.Allowed{}, []int{1, 2}, 1},
		{rules(-1, []int{1}, []int{1}, []int{1}), nil, 3},
		{a, []int{1}, 3}, {a, []int{3}, 2}, {a, []int{4}, 1}, {a, []int{9}, 0},
		{a, []int{1, 2}, 3}, {a, []int{5, 5, 1, 2, 2, 1, 5, 1}, 3},
		{a, []int{3, 1, 2}, 2}, {a, []int{1, 3, 2}, 2}, {a, []int{1, 2, 3}, 2}, {a, []int{3, 3}, 2},
		{a, []int{4, 1, 3}, 1}, {a, []int{1, 4, 3}, 1}, {a, []int{3, 1, 4}, 1}, {a, []int{4, 4}, 1},
		{a, []int{9, 1, 2}, 0}, {a, []int{1, 9, 2}, 0}, {a, []int{1, 2, 9}, 0}, {a, []int{9, 9}, 0},
		{a, []int{3, 9, 4}, 0}, {a, []int{4, 9, 3}, 0}, {a, []int{9, 4, 3, 1}, 0}, {a, []int{1, 3, 4, 9}, 0},
		{a, []int{3, 4, 1}, 1}, {a, []int{4, 3, 1}, 1}, {a, []int{1, 3, 4}, 1},
		// Logs that are not valid are taken as they are.
		{a, []int{-1}, 1}, {a, []int{100}, 1}, {a, []int{1, 100}, 1}, {a, []int{-1, 9}, 0}, {a, []int{1, math.MinInt, 3}, 1},
		{a, slices.Repeat([]int{1}, 9), 3}, {a, append(slices.Repeat([]int{1}, 999), 9), 0}, {a, append([]int{9}, slices.Repeat([]int{1}, 999)...), 0},
		{a, append(slices.Repeat([]int{2}, 999), 3), 2}, {a, append([]int{4}, slices.Repeat([]int{3}, 999)...), 1},
		{rules(0, []int{-1, 100}, nil, []int{200}), []int{-1, 100}, 3}, {rules(0, []int{-1, 100}, nil, []int{200}), []int{-1, 200, 100}, 0},
		// So are rules that are not valid.
		{overlaps, []int{4}, 3}, {overlaps, []int{4, 2}, 2}, {overlaps, []int{2, 4}, 2}, {overlaps, []int{2, 6, 2}, 2},
		{overlaps, []int{2, 8}, 1}, {overlaps, []int{8, 2}, 1}, {overlaps, []int{4, 3}, 0}, {overlaps, []int{3, 4}, 0},
		{overlaps, []int{6, 1}, 0}, {overlaps, []int{1, 6}, 0}, {overlaps, []int{8, 5}, 0}, {overlaps, []int{5, 8}, 0}, {overlaps, []int{4, 6, 8, 7}, 0},
	} {
		checkLogVerdict(t, c.a, c.log, c.want)
	}
}

// The promise: for every log of up to five elements of each verdict, it is that of the worst one, wherever it stands.
func TestALogIsAsGoodAsItsWorstElement(t *testing.T) {
	a := rules(2, []int{1, 2, 5}, []int{3}, []int{9})
	elements := []int{9, 4, 3, 1}
	logs := [][]int{{}}
	for i := 0; i < len(logs); i++ {
		worst := 3
		for verdict, m := range elements {
			if slices.Contains(logs[i], m) {
				worst = min(worst, verdict)
			}
		}
		checkLogVerdict(t, a, logs[i], worst)
		if len(logs[i]) < 5 {
			for _, m := range elements {
				logs = append(logs, with(logs[i], len(logs[i]), m))
			}
		}
	}
}

func TestTheWorstElementAtEveryPlace(t *testing.T) {
	elements := []int{9, 4, 3, 1}
	a := rules(2, []int{1}, []int{3}, []int{9})
	for worst, m := range elements {
		for _, rest := range elements[worst:] {
			for _, n := range []int{0, 1, 2, 3, 7, 8, 50} {
				for place := range n + 1 {
					checkLogVerdict(t, a, with(slices.Repeat([]int{rest}, n), place, m), worst)
				}
			}
		}
	}
}

// Of logs that are not valid, too, and by rules that are not.
func TestAppraiseLogOfEveryLog(t *testing.T) {
	logs := slices.Concat(someLogs(), noLogs(), someSequences())
	for _, a := range append(someAllowed(), noAllowed()...) {
		o := opinionOn(a)
		for _, log := range logs {
			checkLogVerdict(t, a, log, o.ofLog(log))
		}
	}
}

// What stands behind a log, or in front of it, takes away from its verdict only.
func TestOneMoreElementNeverMakesALogBetter(t *testing.T) {
	for _, a := range someAllowed() {
		o := opinionOn(a)
		for _, log := range someLogs() {
			before := impl.AppraiseLog(a, log)
			for m := -1; m <= 100; m++ {
				for place := range len(log) + 1 {
					checkLogVerdict(t, a, with(log, place, m), min(before, o.of(m)))
				}
			}
		}
	}
}

// quoted is the argument list of HealthFact.
type quoted struct {
	a          impl.Allowed
	key        int
	q          impl.Quote
	log        []int
	nonce, now int
	span       int
}

func goodQuoted() quoted {
	log := []int{1, 3}
	return quoted{a: rules(2, []int{1, 2, 5}, []int{3}, []int{9}), key: 200, q: quoteOf(200, 20, log, 7, 5), log: log, nonce: 7, now: 8, span: 10}
}

func (x quoted) fact() (impl.Fact, bool) {
	return impl.HealthFact(x.a, x.key, x.q, x.log, x.nonce, x.now, x.span)
}

func (x quoted) changed(change func(x *quoted)) quoted {
	change(&x)
	return x
}

func checkHealth(t *testing.T, x quoted, value, until int) {
	t.Helper()
	want := impl.Fact{Kind: 3, Subject: x.q.Device, Value: value, Issuer: 1, At: x.now, Until: until}
	if got, ok := x.fact(); !ok || got != want {
		t.Errorf("HealthFact of %v = %v, %v, want %v", x, got, ok, want)
	}
}

func checkNoHealth(t *testing.T, x quoted) {
	t.Helper()
	if got, ok := x.fact(); ok || got != (impl.Fact{}) {
		t.Errorf("HealthFact of %v = %v, %v", x, got, ok)
	}
}

// The marks of the quotes are written out, as they were worked out by the formula of the document.
func TestHealthFact(t *testing.T) {
	a := rules(2, []int{0, 3}, []int{99}, []int{50})
	q := impl.Quote{Device: 20, Register: 1125636268, Nonce: 7, At: 5, Mark: 1072374154}
	x := quoted{a: a, key: 200, q: q, log: []int{3, 0, 99}, nonce: 7, now: 8, span: 10}
	checkHealth(t, x, 2, 18)
	first := impl.Quote{Device: 20, Mark: 2029510824}
	checkHealth(t, quoted{a: a, key: 1, q: first, span: 3}, 3, 3)
	last := impl.Quote{Device: 25, Register: 667760217, Nonce: 0, At: maxTime - 1, Mark: 1165438572}
	checkHealth(t, quoted{a: a, key: 77, q: last, log: []int{0}, now: maxTime, span: 10}, 3, maxTime)
	bad := impl.Quote{Device: 28, Register: 750522771, Nonce: maxValue, At: 42, Mark: 2102323652}
	checkHealth(t, quoted{a: a, key: 9, q: bad, log: []int{50, 50}, nonce: maxValue, now: 42, span: 0}, 0, 42)
	checkHealth(t, quoted{a: rules(0), key: 9, q: bad, log: []int{50, 50}, nonce: maxValue, now: 47, span: 1}, 1, 48)
}

func TestTheHealthIsThatOfTheLog(t *testing.T) {
	for i, log := range someLogs() {
		for _, a := range append(someAllowed(), overlapping()...) {
			x := quoted{a: a, key: 9, q: quoteOf(9, 20+i%10, log, 3, 100), log: log, nonce: 3, now: 103, span: 20}
			checkHealth(t, x, opinionOn(a).ofLog(log), 123)
		}
	}
}

// The document asks for good quotes and valid facts, not for valid rules.
func TestTheHealthByRulesThatAreNotValid(t *testing.T) {
	x := goodQuoted()
	for _, a := range noAllowed() {
		x.a = a
		checkHealth(t, x, opinionOn(a).ofLog(x.log), 18)
	}
	for verdict, a := range []impl.Allowed{rules(-1, nil, nil, []int{3, 3}), rules(-1), rules(-1, []int{3, 1}, []int{3, 1}), rules(-1, []int{3, 1, 100})} {
		x.a = a
		checkHealth(t, x, verdict, 18)
	}
}

func TestHealthFactForEveryDevice(t *testing.T) {
	for device := -100; device <= 600; device++ {
		x := goodQuoted()
		x.q = quoteOf(200, device, x.log, 7, 5)
		if 20 <= device && device <= 29 {
			checkHealth(t, x, 2, 18)
		} else {
			checkNoHealth(t, x)
		}
	}
}

func TestHealthFactAtEveryAge(t *testing.T) {
	x := goodQuoted()
	for _, at := range []int{0, 1, 5, 5000, maxTime - 6, maxTime - 5, maxTime - 1, maxTime} {
		x.q = quoteOf(200, 20, x.log, 7, at)
		for _, now := range append(timesAround(impl.Cert{From: at, Until: at + 5}), at+2, at+3, at+4) {
			x.now = now
			if isOneOfTheTimes(now) && at <= now && now <= at+5 {
				checkHealth(t, x, 2, min(now+10, maxTime))
			} else {
				checkNoHealth(t, x)
			}
		}
	}
}

// A span that is none ends at 0, so that the fact is valid at 0 only.
func TestHealthFactWithEverySpan(t *testing.T) {
	spans := slices.Concat(countedFrom(-20, 60), noTimes(), []int{100, 5000, maxTime - 8, maxTime - 7, maxTime - 1, maxTime, math.MaxInt - 8, math.MaxInt - 7})
	for _, now := range []int{0, 1, 3, 5, 8, 5000, maxTime - 2, maxTime - 1, maxTime} {
		x := goodQuoted()
		x.now = now
		x.q = quoteOf(200, 20, x.log, 7, max(now-2, 0))
		for _, span := range spans {
			x.span = span
			switch isSpan := isOneOfTheTimes(span); {
			case isSpan:
				checkHealth(t, x, 2, min(now+span, maxTime))
			case now == 0:
				checkHealth(t, x, 2, 0)
			default:
				checkNoHealth(t, x)
			}
		}
	}
}

func TestHealthFactUnderAnotherKey(t *testing.T) {
	x := goodQuoted()
	for _, key := range slices.Concat(keysOfIssuers(), noKeysOfIssuers(), []int{199, 201, -200, 200 + modulus, 200 - modulus}) {
		checkNoHealth(t, x.changed(func(x *quoted) { x.key = key }))
	}
	for _, key := range noKeysOfIssuers() {
		checkNoHealth(t, x.changed(func(x *quoted) { x.key, x.q = key, quoteOf(key, 20, x.log, 7, 5) }))
	}
	for _, key := range keysOfIssuers() {
		checkHealth(t, x.changed(func(x *quoted) { x.key, x.q = key, quoteOf(key, 20, x.log, 7, 5) }), 2, 18)
	}
}

func TestHealthFactOfAnotherLog(t *testing.T) {
	x := goodQuoted()
	for _, log := range slices.Concat(changedLogs(x.log), someLogs(), noLogs()) {
		checkNoHealth(t, x.changed(func(x *quoted) { x.log = log }))
	}
	for _, log := range noLogs() {
		checkNoHealth(t, x.changed(func(x *quoted) { x.log, x.q = log, quoteOf(200, 20, log, 7, 5) }))
	}
}

func TestHealthFactForAnotherNonce(t *testing.T) {
	x := goodQuoted()
	for _, nonce := range append(nonces(), 6, 8, -7, 7+modulus, 7-modulus) {
		checkNoHealth(t, x.changed(func(x *quoted) { x.nonce = nonce }))
		checkHealth(t, x.changed(func(x *quoted) { x.nonce, x.q = nonce, quoteOf(200, 20, x.log, nonce, 5) }), 2, 18)
	}
}

// With each part changed, also where the mark is made anew for a register that is not that of the log.
func TestHealthFactOfAChangedQuote(t *testing.T) {
	x := goodQuoted()
	for _, d := range []int{1, -1, 2, -2, 3, -5, -7, 9, 10, -10, 1000, modulus, -modulus, 1 << 32, math.MinInt} {
		for part, q := range changedQuotes(x.q, d) {
			checkNoHealth(t, x.changed(func(x *quoted) { x.q = q }))
			if part == 1 {
				checkNoHealth(t, x.changed(func(x *quoted) { x.q = quoteWithMark(200, q) }))
			}
		}
	}
	for _, m := range noAnswersBeside(x.q.Mark) {
		checkNoHealth(t, x.changed(func(x *quoted) { x.q.Mark = m }))
	}
	for _, at := range noTimes() {
		checkNoHealth(t, x.changed(func(x *quoted) { x.q = quoteOf(200, 20, x.log, 7, at) }))
		checkNoHealth(t, x.changed(func(x *quoted) { x.q, x.now = quoteOf(200, 20, x.log, 7, at), at }))
	}
	for _, now := range []int{0, 5, 8} {
		checkNoHealth(t, quoted{a: x.a, key: 200, now: now, span: 10})
		checkNoHealth(t, quoted{a: x.a, key: 0, now: now, span: 10})
	}
}

func TestReplaceAllowed(t *testing.T) {
	a := rules(2, []int{1, 2, 5}, []int{3}, []int{9})
	b := rules(3, []int{1}, nil, []int{9})
	checkReplaced(t, a, b, b, true)
	checkReplaced(t, b, a, b, false)
	checkReplaced(t, a, a, a, false)
	checkReplaced(t, a, withVersion(b, 2), a, false)
	checkReplaced(t, a, withVersion(b, 1), a, false)
	checkReplaced(t, a, withVersion(b, -1), a, false)
	checkReplaced(t, a, withVersion(b, math.MaxInt), withVersion(b, math.MaxInt), true)
	checkReplaced(t, withVersion(a, math.MaxInt), withVersion(b, math.MaxInt), withVersion(a, math.MaxInt), false)
	checkReplaced(t, withVersion(a, math.MaxInt), withVersion(b, math.MinInt), withVersion(a, math.MaxInt), false)
	checkReplaced(t, withVersion(a, math.MinInt), withVersion(b, 0), withVersion(b, 0), true)
	checkReplaced(t, withVersion(a, math.MinInt), withVersion(b, math.MaxInt), withVersion(b, math.MaxInt), true)
	checkReplaced(t, withVersion(a, -2), withVersion(b, -1), withVersion(a, -2), false)
	checkReplaced(t, withVersion(a, -1), withVersion(b, 0), withVersion(b, 0), true)
	checkReplaced(t, impl.Allowed{}, impl.Allowed{}, impl.Allowed{}, false)
	checkReplaced(t, impl.Allowed{}, rules(1), rules(1), true)
	checkReplaced(t, a, rules(3, []int{1}, []int{1}), a, false)
	checkReplaced(t, a, rules(3, []int{2, 1}), a, false)
	checkReplaced(t, a, rules(3, nil, nil, []int{100}), a, false)
}

func TestReplaceAllowedByVersion(t *testing.T) {
	for _, old := range append(someAllowed(), noAllowed()[:50]...) {
		for _, next := range someAllowed() {
			for i := -3; i <= 6; i++ {
				for j := -3; j <= 6; j++ {
					a, b := withVersion(old, i), withVersion(next, j)
					if j >= 0 && j > i {
						checkReplaced(t, a, b, b, true)
					} else {
						checkReplaced(t, a, b, a, false)
					}
				}
			}
		}
	}
}

// Rules that are not valid are never taken, but they may be replaced.
func TestReplaceAllowedThatIsNotValid(t *testing.T) {
	for _, wrong := range noAllowed() {
		for _, a := range someAllowed() {
			for _, version := range []int{0, 1, 9, wrong.Version} {
				checkReplaced(t, withVersion(a, version), wrong, withVersion(a, version), false)
			}
			checkReplaced(t, withVersion(wrong, 3), withVersion(a, 4), withVersion(a, 4), true)
			checkReplaced(t, withVersion(wrong, 3), withVersion(a, 3), withVersion(wrong, 3), false)
			checkReplaced(t, withVersion(wrong, 3), withVersion(a, 2), withVersion(wrong, 3), false)
		}
		checkReplaced(t, withVersion(wrong, -5), wrong, withVersion(wrong, -5), false)
		checkReplaced(t, rules(math.MinInt), wrong, rules(math.MinInt), false)
	}
}

func TestIsStricter(t *testing.T) {
	a := rules(2, []int{1, 2, 5}, []int{3}, []int{9})
	b := rules(3, []int{1}, nil, []int{9})
	for _, c := range []struct {
		a, b          impl.Allowed
		want, wayBack bool
	}{
		{a, a, true, true},
		{b, a, true, false},
		{a, withVersion(a, 1), true, true},
		{a, impl.Allowed{}, false, false},
		{impl.Allowed{}, impl.Allowed{}, true, true},
		{impl.Allowed{}, rules(1, []int{}, []int{}, []int{}), true, true},
		{impl.Allowed{}, rules(0, []int{1, 2, 5}, []int{3}), true, false},
		{rules(0, nil, nil, []int{9}), impl.Allowed{}, true, false},
		{rules(0, []int{1}), rules(0, []int{2}), false, false},
		{rules(0, []int{1}), rules(0, []int{1, 2}), true, false},
		{rules(0, nil, []int{1}), rules(0, []int{1}), true, false},
		{rules(0, nil, nil, []int{1}), rules(0, nil, []int{1}), true, false},
		{rules(0, nil, nil, []int{1}), rules(0, []int{1}), true, false},
		{rules(0, nil, []int{1}), rules(0, []int{2}), false, false},
		{rules(0, []int{1}, nil, []int{2}), rules(0, nil, []int{1, 2}), false, false},
		{rules(0, nil, nil, []int{0}), rules(0, nil, nil, []int{99}), false, false},
		{rules(0, nil, nil, []int{0, 99}), rules(0, nil, nil, []int{99}), true, false},
		// Numbers that no log may hold do not count.
		{rules(0, []int{100}), rules(0, nil, nil, []int{100}), true, true},
		{rules(0, []int{-1}), rules(0, nil, nil, []int{-1}), true, true},
		{rules(0, []int{-1, 0}), rules(0, nil, nil, []int{-1}), false, true},
		{rules(0, []int{99, 100}), rules(0, nil, nil, []int{100}), false, true},
		// By rules that are not valid, Bad counts first, and Old before Good.
		{rules(-1, []int{1}, []int{1}, []int{1}), rules(-1, nil, nil, []int{1}), true, true},
		{rules(-1, []int{1}, []int{1}), rules(-1, nil, []int{1}), true, true},
		{rules(-1, []int{1}, []int{1}), rules(-1, []int{1}), true, false},
		{rules(-1, []int{3, 2, 2}), rules(-1, []int{2, 3}), true, true},
		{rules(-1, countedFrom(0, 100)), rules(-1, countedFrom(0, 99)), false, true},
		{rules(-1, nil, nil, countedFrom(0, 100)), rules(-1, nil, nil, countedFrom(1, 99)), true, false},
	} {
		checkStricter(t, c.a, c.b, c.want)
		checkStricter(t, c.b, c.a, c.wayBack)
	}
}

// Each number is raised or lowered by itself from one list, or from none, to another one.
func TestIsStricterInOneNumber(t *testing.T) {
	rest := rules(1, []int{200}, []int{201}, []int{202})
	placed := func(m, verdict int) impl.Allowed {
		for place, v := range verdictsInOrder {
			if v == verdict {
				return withList(rest, place, append([]int{m}, listsOf(rest)[place]...))
			}
		}
		return rest
	}
	for m := -3; m <= 103; m++ {
		counts := 0 <= m && m <= 99
		for i := range 4 {
			for j := range 4 {
				checkStricter(t, placed(m, i), placed(m, j), i <= j || !counts)
			}
		}
	}
}

func TestIsStricterOfAnyTwoRules(t *testing.T) {
	list := slices.Concat(someAllowed(), noAllowed(), smallRules(0, 99)[:200])
	opinions := make([][]int, len(list))
	for i, a := range list {
		o := opinionOn(a)
		for m := range 100 {
			opinions[i] = append(opinions[i], o.of(m))
		}
	}
	for i := 0; i < len(list); i++ {
		checkStricter(t, list[i], list[i], true)
		for j := i % 7; j < len(list); j += 7 {
			want := true
			for m := range 100 {
				want = want && opinions[i][m] <= opinions[j][m]
			}
			checkStricter(t, list[i], list[j], want)
		}
	}
}

// What stricter rules say of a log is no better.
func TestStricterRulesAppraiseNoLogBetter(t *testing.T) {
	for _, a := range someAllowed() {
		for _, b := range someAllowed() {
			if !impl.IsStricter(a, b) {
				continue
			}
			for _, log := range someLogs() {
				if got, most := impl.AppraiseLog(a, log), impl.AppraiseLog(b, log); got > most {
					t.Errorf("AppraiseLog of %v is %d by %v, and %d by %v", log, got, a, most, b)
				}
			}
		}
	}
}

// sparedAllowed returns a copy of a with marked spare capacity behind each list.
func sparedAllowed(a impl.Allowed) impl.Allowed {
	return rules(a.Version, sparedInts(a.Good), sparedInts(a.Old), sparedInts(a.Bad))
}

func isAllowedUntouched(a impl.Allowed, want impl.Allowed) bool {
	wanted := listsOf(want)
	for i, list := range listsOf(a) {
		if !areUntouched(list, wanted[i]) {
			return false
		}
	}
	return a.Version == want.Version
}

func TestRulesAndLogsAreLeftUntouched(t *testing.T) {
	all := append(someAllowed(), noAllowed()...)
	for i, want := range all {
		a := sparedAllowed(want)
		impl.IsAllowed(a)
		impl.AppraiseOne(a, 9)
		for _, wanted := range [][]int{nil, {1, 3}, {9, 0, 99}, {-1, 100}, countedTo(maxBoot), countedTo(maxBoot + 1)} {
			log := sparedInts(wanted)
			impl.AppraiseLog(a, log)
			for _, key := range []int{0, 200} {
				impl.HealthFact(a, key, quoteOf(200, 20, wanted, 7, 5), log, 7, 8, 10)
			}
			if !areUntouched(log, wanted) {
				t.Errorf("%v became %v", wanted, log[:len(log)+16])
			}
		}
		impl.ReplaceAllowed(a, a)
		impl.IsStricter(a, a)
		other := all[(i+5)%len(all)]
		b := sparedAllowed(other)
		impl.ReplaceAllowed(a, b)
		impl.ReplaceAllowed(b, a)
		impl.IsStricter(a, b)
		if !isAllowedUntouched(a, want) || !isAllowedUntouched(b, other) {
			t.Errorf("%v and %v became %v and %v", want, other, a, b)
		}
	}
}

// Each list of a result is spoiled in turn: neither an argument, nor another result, nor another list of this one may change.
func TestReplacedRulesShareNoMemory(t *testing.T) {
	versions := [][2]int{{1, 2}, {2, 2}, {3, 2}, {1, -1}}
	for _, x := range append(someAllowed(), noAllowed()[:30]...) {
		for _, y := range append(someAllowed(), noAllowed()[:10]...) {
			for _, v := range versions {
				wantA, wantB := withVersion(x, v[0]), withVersion(y, v[1])
				a, b := sparedAllowed(wantA), sparedAllowed(wantB)
				want := wantA
				if mayBeAllowed(wantB) && wantB.Version > wantA.Version {
					want = wantB
				}
				again, _ := impl.ReplaceAllowed(a, b)
				for place := range 3 {
					got, _ := impl.ReplaceAllowed(a, b)
					spoilInts(listsOf(got)[place])
					rest := withList(got, place, listsOf(want)[place])
					if !isAllowedUntouched(a, wantA) || !isAllowedUntouched(b, wantB) || !sameRules(rest, want) || !sameRules(again, want) {
						t.Errorf("ReplaceAllowed(%v, %v) shares memory", wantA, wantB)
					}
				}
			}
		}
	}
}

// The lists of these rules are parts of one array, and both rules have the same lists.
func TestReplacedRulesWhoseListsShareMemory(t *testing.T) {
	whole := sparedInts([]int{1, 2, 3, 4, 5, 6})
	a := rules(1, whole[:2], whole[2:4], whole[4:])
	want := rules(1, []int{1, 2}, []int{3, 4}, []int{5, 6})
	for _, version := range []int{0, 1, 2} {
		for place := range 3 {
			got, ok := impl.ReplaceAllowed(a, withVersion(a, version))
			if ok != (version == 2) || !sameRules(got, withVersion(want, max(version, 1))) {
				t.Errorf("ReplaceAllowed of the version %d = %v, %v", version, got, ok)
			}
			spoilInts(listsOf(got)[place])
			if rest := withList(got, place, listsOf(want)[place]); !sameRules(rest, withVersion(want, max(version, 1))) {
				t.Errorf("the lists of %v share memory", got)
			}
			if !areUntouched(whole, []int{1, 2, 3, 4, 5, 6}) {
				t.Errorf("the lists became %v", whole)
			}
		}
	}
	same := []int{7}
	thrice := rules(1, same, same, same)
	for place := range 3 {
		got, _ := impl.ReplaceAllowed(thrice, rules(0))
		spoilInts(listsOf(got)[place])
		if rest := withList(got, place, same); !sameRules(rest, rules(1, []int{7}, []int{7}, []int{7})) {
			t.Errorf("the lists of %v share memory", got)
		}
	}
}
