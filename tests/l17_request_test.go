package tests

import (
	"fmt"
	"math"
	"slices"
	"testing"

	"loop.example/g00594/impl"
)

const maxAction = 5

// part is a number of a request, with the first and the last one that it may be.
type part struct {
	name        string
	of          func(q *impl.Request) *int
	first, last int
}

func partsOfRequests() []part {
	return []part{
		{"Person", func(q *impl.Request) *int { return &q.Person }, 10, 19},
		{"Device", func(q *impl.Request) *int { return &q.Device }, 20, 29},
		{"Program", func(q *impl.Request) *int { return &q.Program }, 30, 39},
		{"Action", func(q *impl.Request) *int { return &q.Action }, 0, maxAction},
		{"Object", func(q *impl.Request) *int { return &q.Object }, 40, 49},
		{"Now", func(q *impl.Request) *int { return &q.Now }, 0, maxTime},
	}
}

func (p part) isGood(n int) bool {
	return p.first <= n && n <= p.last
}

// in returns q with another number in this part.
func (p part) in(q impl.Request, n int) impl.Request {
	*p.of(&q) = n
	return q
}

// numbers holds what is around the range of the part and of all others, and what is far from them.
func (p part) numbers() []int {
	around := []int{p.first - 1, p.first, p.first + 1, p.last - 1, p.last, p.last + 1, p.first + 1<<32, p.last - 1<<32, p.first + math.MinInt, -p.first, -p.last}
	return slices.Concat(around, countedFrom(-12, 80), noNames(), noTimes(), timesAtTheEnds(), atTheEnds())
}

func request(person, device, program, action, object, now int) impl.Request {
	return impl.Request{Person: person, Device: device, Program: program, Action: action, Object: object, Now: now}
}

// first is the request with the least names, which is often asked at 10.
func first(now int) impl.Request {
	return request(10, 20, 30, 0, 40, now)
}

func someRequests() []impl.Request {
	return []impl.Request{
		first(0),
		first(10),
		request(19, 29, 39, maxAction, 49, maxTime),
		request(13, 27, 31, 2, 44, 500),
		request(10, 29, 30, maxAction, 40, 1),
		request(19, 20, 39, 0, 49, maxTime-1),
		request(15, 25, 35, 1, 45, 25),
	}
}

// noRequests holds requests that are not valid, most of them by one part only.
func noRequests() []impl.Request {
	list := []impl.Request{
		{},
		request(-1, -1, -1, -1, -1, -1),
		request(20, 10, 30, 0, 40, 10),
		request(10, 30, 20, 0, 40, 10),
		request(10, 20, 40, 0, 30, 10),
		request(40, 20, 30, 0, 10, 10),
		request(10, 20, 30, 10, 40, 0),
		request(0, 0, 0, 0, 0, 0),
		request(1, 2, 3, 4, 5, 6),
	}
	for _, q := range someRequests() {
		for _, p := range partsOfRequests() {
			for _, n := range []int{p.first - 1, p.last + 1, p.first - 10, p.last + 10, -1, math.MinInt, math.MaxInt} {
				if !p.isGood(n) {
					list = append(list, p.in(q, n))
				}
			}
		}
	}
	return list
}

func anyRequests() []impl.Request {
	return append(someRequests(), noRequests()...)
}

func isGoodRequest(q impl.Request) bool {
	for _, p := range partsOfRequests() {
		if !p.isGood(*p.of(&q)) {
			return false
		}
	}
	return true
}

// textOfRequest is a second account of the text of any request.
func textOfRequest(q impl.Request) string {
	if !isGoodRequest(q) {
		return ""
	}
	names := nameTexts()
	return fmt.Sprintf("%s %s %s %d %s %d", names[q.Person-10], names[q.Device-10], names[q.Program-10], q.Action, names[q.Object-10], q.Now)
}

func checkRequest(t *testing.T, q impl.Request) {
	t.Helper()
	if got := impl.IsRequest(q); got != isGoodRequest(q) {
		t.Errorf("IsRequest(%+v) = %v", q, got)
	}
	if got, want := impl.FormatRequest(q), textOfRequest(q); got != want {
		t.Errorf("FormatRequest(%+v) = %q, want %q", q, got, want)
	}
}

func checkSame(t *testing.T, a, b impl.Request, want bool) {
	t.Helper()
	if impl.SameQuestion(a, b) != want || impl.SameQuestion(b, a) != want {
		t.Errorf("SameQuestion of %+v and %+v is not %v", a, b, want)
	}
}

func TestMaxAction(t *testing.T) {
	if impl.MaxAction != maxAction {
		t.Error(impl.MaxAction)
	}
}

func TestIsRequest(t *testing.T) {
	for _, q := range someRequests() {
		if !impl.IsRequest(q) {
			t.Errorf("%+v is none", q)
		}
		checkRequest(t, q)
	}
	for _, q := range noRequests() {
		if impl.IsRequest(q) {
			t.Errorf("%+v is a request", q)
		}
		checkRequest(t, q)
	}
}

// The ends of what is allowed are written out here, as the parts tell them for all other tests.
func TestTheEndsOfEachPart(t *testing.T) {
	for _, c := range []struct {
		q    impl.Request
		want bool
	}{
		{request(9, 20, 30, 0, 40, 10), false},
		{request(10, 20, 30, 0, 40, 10), true},
		{request(19, 20, 30, 0, 40, 10), true},
		{request(20, 20, 30, 0, 40, 10), false},
		{request(10, 19, 30, 0, 40, 10), false},
		{request(10, 20, 30, 0, 40, 10), true},
		{request(10, 29, 30, 0, 40, 10), true},
		{request(10, 30, 30, 0, 40, 10), false},
		{request(10, 20, 29, 0, 40, 10), false},
		{request(10, 20, 30, 0, 40, 10), true},
		{request(10, 20, 39, 0, 40, 10), true},
		{request(10, 20, 40, 0, 40, 10), false},
		{request(10, 20, 30, -1, 40, 10), false},
		{request(10, 20, 30, 0, 40, 10), true},
		{request(10, 20, 30, 5, 40, 10), true},
		{request(10, 20, 30, 6, 40, 10), false},
		{request(10, 20, 30, 0, 39, 10), false},
		{request(10, 20, 30, 0, 40, 10), true},
		{request(10, 20, 30, 0, 49, 10), true},
		{request(10, 20, 30, 0, 50, 10), false},
		{request(10, 20, 30, 0, 40, -1), false},
		{request(10, 20, 30, 0, 40, 0), true},
		{request(10, 20, 30, 0, 40, 10000), true},
		{request(10, 20, 30, 0, 40, 10001), false},
	} {
		if got := impl.IsRequest(c.q); got != c.want {
			t.Errorf("IsRequest(%+v) = %v", c.q, got)
		}
		if got := impl.FormatRequest(c.q) != ""; got != c.want {
			t.Errorf("FormatRequest(%+v) = %q", c.q, impl.FormatRequest(c.q))
		}
	}
}

func TestEveryNumberInEachPart(t *testing.T) {
	for _, q := range someRequests() {
		for _, p := range partsOfRequests() {
			for _, n := range p.numbers() {
				checkRequest(t, p.in(q, n))
			}
		}
	}
	for now := -50; now <= maxTime+50; now++ {
		checkRequest(t, first(now))
		checkRequest(t, request(19, 29, 39, maxAction, 49, now))
	}
}

// No part makes up for another one.
func TestTwoPartsOfARequest(t *testing.T) {
	for _, p := range partsOfRequests() {
		for _, other := range partsOfRequests() {
			for _, n := range p.numbers() {
				for _, m := range []int{other.first - 1, other.first, other.last, other.last + 1, -1, 0, math.MinInt, math.MaxInt} {
					checkRequest(t, other.in(p.in(first(10), n), m))
				}
			}
			q := first(10)
			x, y := *p.of(&q), *other.of(&q)
			exchanged := other.in(p.in(q, y), x)
			checkRequest(t, exchanged)
			if impl.IsRequest(exchanged) != (p.isGood(y) && other.isGood(x)) {
				t.Errorf("%s and %s exchanged: %+v", p.name, other.name, exchanged)
			}
		}
	}
}

func TestFormatRequest(t *testing.T) {
	for _, c := range []struct {
		q    impl.Request
		want string
	}{
		{request(10, 20, 30, 0, 40, 0), "p0 d0 g0 0 o0 0"},
		{request(10, 20, 30, 0, 40, 10), "p0 d0 g0 0 o0 10"},
		{request(19, 20, 30, 0, 40, 10), "p9 d0 g0 0 o0 10"},
		{request(10, 29, 30, 0, 40, 10), "p0 d9 g0 0 o0 10"},
		{request(10, 20, 39, 0, 40, 10), "p0 d0 g9 0 o0 10"},
		{request(10, 20, 30, 5, 40, 10), "p0 d0 g0 5 o0 10"},
		{request(10, 20, 30, 0, 49, 10), "p0 d0 g0 0 o9 10"},
		{request(10, 20, 30, 0, 40, 10000), "p0 d0 g0 0 o0 10000"},
		{request(19, 29, 39, 5, 49, 10000), "p9 d9 g9 5 o9 10000"},
		{request(13, 27, 31, 2, 44, 500), "p3 d7 g1 2 o4 500"},
		{request(11, 22, 33, 4, 45, 67), "p1 d2 g3 4 o5 67"},
	} {
		if got := impl.FormatRequest(c.q); got != c.want {
			t.Errorf("FormatRequest(%+v) = %q, want %q", c.q, got, c.want)
		}
	}
	for _, q := range noRequests() {
		if got := impl.FormatRequest(q); got != "" {
			t.Errorf("FormatRequest(%+v) = %q", q, got)
		}
	}
}

func TestTheTextsOfAllNamesAndActions(t *testing.T) {
	for n := range 10000 * (maxAction + 1) {
		checkRequest(t, request(10+n%10, 20+n/10%10, 30+n/100%10, n/10000, 40+n/1000%10, n/7))
	}
}

func TestSameQuestion(t *testing.T) {
	q := request(13, 27, 31, 2, 44, 500)
	for _, c := range []struct {
		other impl.Request
		want  bool
	}{
		{q, true},
		{request(13, 27, 31, 2, 44, 501), true},
		{request(13, 27, 31, 2, 44, 0), true},
		{request(13, 27, 31, 2, 44, maxTime), true},
		{request(13, 27, 31, 2, 44, -1), true},
		{request(13, 27, 31, 2, 44, math.MinInt), true},
		{request(14, 27, 31, 2, 44, 500), false},
		{request(13, 26, 31, 2, 44, 500), false},
		{request(13, 27, 32, 2, 44, 500), false},
		{request(13, 27, 31, 1, 44, 500), false},
		{request(13, 27, 31, 2, 43, 500), false},
		{request(14, 27, 31, 2, 44, 501), false},
		{request(13, 27, 31, 2, 43, 501), false},
		{first(500), false},
		{impl.Request{}, false},
	} {
		checkSame(t, q, c.other, c.want)
	}
}

func TestQuestionsThatDifferInOnePart(t *testing.T) {
	for _, q := range anyRequests() {
		checkSame(t, q, q, true)
		for _, p := range partsOfRequests() {
			for _, d := range []int{1, -1, 2, 10, -10, 256, 1 << 32, math.MinInt, math.MaxInt} {
				other := p.in(q, *p.of(&q)+d)
				checkSame(t, q, other, p.name == "Now")
				for _, now := range []int{0, -1, maxTime, math.MaxInt} {
					other.Now = now
					checkSame(t, q, other, p.name == "Now")
				}
			}
		}
	}
}

// Two parts change so that their sum remains.
func TestQuestionsThatDifferInTwoParts(t *testing.T) {
	for _, q := range anyRequests() {
		for i, p := range partsOfRequests() {
			for _, other := range partsOfRequests()[i+1:] {
				changed := other.in(p.in(q, *p.of(&q)+1), *other.of(&q)-1)
				checkSame(t, q, changed, false)
				exchanged := other.in(p.in(q, *other.of(&q)), *p.of(&q))
				isSame := *p.of(&q) == *other.of(&q)
				checkSame(t, q, exchanged, isSame)
			}
		}
	}
}

func TestEveryTwoQuestions(t *testing.T) {
	all := append(anyRequests(), anyRequests()...)
	for i := range all {
		all[i].Now += i
	}
	for _, a := range all {
		for _, b := range all {
			want := a.Person == b.Person && a.Device == b.Device && a.Program == b.Program && a.Action == b.Action && a.Object == b.Object
			checkSame(t, a, b, want)
		}
	}
}

func TestAtTime(t *testing.T) {
	for _, q := range anyRequests() {
		for _, now := range slices.Concat(timesAtTheEnds(), noTimes(), atTheEnds(), []int{q.Now - 1, q.Now, q.Now + 1, 500}) {
			asked := q
			got := impl.AtTime(q, now)
			want := request(q.Person, q.Device, q.Program, q.Action, q.Object, now)
			if got != want || q != asked {
				t.Errorf("AtTime(%+v, %d) = %+v", asked, now, got)
			}
			checkRequest(t, got)
			checkSame(t, q, got, true)
			if impl.AtTime(got, q.Now) != q {
				t.Errorf("%+v does not come back from %d", q, now)
			}
			for _, later := range []int{0, 3, maxTime, -1, math.MinInt, math.MaxInt} {
				if impl.AtTime(got, later) != impl.AtTime(q, later) {
					t.Errorf("%+v at %d is not the same at %d", q, now, later)
				}
			}
		}
		if impl.AtTime(q, q.Now) != q {
			t.Errorf("%+v at its own time is %+v", q, impl.AtTime(q, q.Now))
		}
	}
}

func TestAtTimeWrittenOut(t *testing.T) {
	if got := impl.AtTime(request(13, 27, 31, 2, 44, 500), 7); got != request(13, 27, 31, 2, 44, 7) {
		t.Errorf("%+v", got)
	}
	if got := impl.AtTime(impl.Request{}, -3); got != (impl.Request{Now: -3}) {
		t.Errorf("%+v", got)
	}
	if got := impl.AtTime(first(5), math.MinInt); got != first(math.MinInt) || impl.IsRequest(got) {
		t.Errorf("%+v", got)
	}
}

// valuesByParts tells, one fact after the other, the Values of those of a kind and about a subject that hold.
func valuesByParts(s []impl.Fact, kind, subject, now, age int) []int {
	var values []int
	for _, f := range s {
		if f.Kind != kind || f.Subject != subject {
			continue
		}
		isGood := f.Issuer >= 0 && f.Issuer <= 9 && f.At >= 0 && f.Until <= maxTime
		form := slices.IndexFunc(factForms(), func(form factForm) bool {
			return form.kind == f.Kind && form.firstSubject <= f.Subject && f.Subject <= form.lastSubject && form.firstValue <= f.Value && f.Value <= form.lastValue
		})
		if isGood && form != -1 && f.At <= now && now <= f.Until && now-f.At <= age {
			values = append(values, f.Value)
		}
	}
	return values
}

// leafByParts is a second account of leaves.
func leafByParts(l []impl.Includes, s []impl.Fact, x impl.Cond, q impl.Request) bool {
	switch x.Op {
	case 1:
		return true
	case 2:
		return slices.Contains(routesOf(l).under(valuesByParts(s, 1, q.Person, q.Now, x.B)...), x.A)
	case 3:
		return slices.Contains(valuesByParts(s, 2, q.Person, q.Now, x.B), q.Device)
	case 4:
		return slices.Max(append(valuesByParts(s, 3, q.Device, q.Now, x.B), -1)) >= x.A
	case 5:
		return slices.Max(append(valuesByParts(s, 4, q.Program, q.Now, x.B), -1)) >= x.A
	case 6:
		return q.Now <= x.A
	}
	return false
}

// checkLeaf asks twice, also with arguments, which no leaf looks at.
func checkLeaf(t *testing.T, l []impl.Includes, s []impl.Fact, x impl.Cond, q impl.Request, want bool) {
	t.Helper()
	if leafByParts(l, s, x, q) != want {
		t.Errorf("leafByParts(%v, %v, %v, %+v) is not %v", l, s, x, q, want)
	}
	more := x
	more.Args = append(slices.Clone(x.Args), cond(1, 0, 0), cond(7, 0, 0))
	for _, asked := range []impl.Cond{x, more, x} {
		if got := impl.LeafHolds(l, s, asked, q); got != want {
			t.Errorf("LeafHolds(%v, %v, %v, %+v) = %v", l, s, asked, q, got)
		}
	}
}

func checkLeafByParts(t *testing.T, l []impl.Includes, s []impl.Fact, x impl.Cond, q impl.Request) {
	t.Helper()
	checkLeaf(t, l, s, x, q, leafByParts(l, s, x, q))
}

// stated is a fact of the issuer 1 that holds from 5 until 20.
func stated(kind, subject, value int) impl.Fact {
	return impl.Fact{Kind: kind, Subject: subject, Value: value, Issuer: 1, At: 5, Until: 20}
}

func storeOf(t *testing.T, facts ...impl.Fact) []impl.Fact {
	t.Helper()
	s := impl.MergeStores(nil, facts)
	if len(s) != len(facts) {
		t.Fatalf("%v are not as many claims", facts)
	}
	return s
}

// storeOfFirst states something of each kind about the names of the request first.
func storeOfFirst(t *testing.T) []impl.Fact {
	t.Helper()
	return storeOf(t, stated(1, 10, 2), stated(2, 10, 20), stated(3, 20, 1), stated(4, 30, 3))
}

// onFacts is a leaf that holds for the request first exactly as long as the fact beside it does.
type onFacts struct {
	fact impl.Fact
	op   int
	a    int
}

func leavesOnFacts() []onFacts {
	return []onFacts{
		{stated(1, 10, 0), 2, 0},
		{stated(1, 10, 2), 2, 2},
		{stated(1, 10, 5), 2, 5},
		{stated(2, 10, 20), 3, 0},
		{stated(3, 20, 0), 4, 0},
		{stated(3, 20, 1), 4, 1},
		{stated(3, 20, 3), 4, 3},
		{stated(4, 30, 0), 5, 0},
		{stated(4, 30, 1), 5, 1},
		{stated(4, 30, 3), 5, 3},
	}
}

func TestLeafHolds(t *testing.T) {
	s := storeOf(t,
		impl.Fact{Kind: 1, Subject: 10, Value: 2, Issuer: 1, At: 5, Until: 12},
		impl.Fact{Kind: 2, Subject: 10, Value: 20, Issuer: 1, At: 8, Until: 30},
		impl.Fact{Kind: 3, Subject: 20, Value: 2, Issuer: 1, At: 9, Until: 30},
		impl.Fact{Kind: 4, Subject: 30, Value: 1, Issuer: 1, At: 10, Until: 10},
	)
	l := chain(3, 2, 1, 0)
	for _, c := range []struct {
		x    impl.Cond
		now  int
		want bool
	}{
		{always(), 10, true},
		{cond(2, 2, 5), 10, true},
		{cond(2, 2, 4), 10, false},
		{cond(2, 1, 5), 10, true},
		{cond(2, 0, 5), 10, true},
		{cond(2, 3, 5), 10, false},
		{cond(2, 4, 5), 10, false},
		{cond(2, 2, 7), 12, true},
		{cond(2, 2, 8), 13, false},
		{cond(3, 0, 2), 10, true},
		{cond(3, 0, 1), 10, false},
		{cond(3, 0, 0), 8, true},
		{cond(3, 0, 9), 7, false},
		{cond(4, 2, 1), 10, true},
		{cond(4, 2, 0), 10, false},
		{cond(4, 3, 1), 10, false},
		{cond(4, 0, 1), 10, true},
		{cond(4, -1, 0), 10, true},
		{cond(5, 1, 0), 10, true},
		{cond(5, 1, 9), 11, false},
		{cond(5, 1, 9), 9, false},
		{cond(5, 2, 9), 10, false},
		{cond(6, 10, 0), 10, true},
		{cond(6, 9, 0), 10, false},
		{cond(6, 11, 0), 10, true},
	} {
		checkLeaf(t, l, s, c.x, first(c.now), c.want)
	}
}

func TestOtherOperationsAreNoLeaves(t *testing.T) {
	s := storeOfFirst(t)
	args := []impl.Cond{cond(2, 2, 20), always()}
	for _, op := range append(noOperations(), 7, 8, 9) {
		for _, numbers := range [][2]int{{0, 0}, {1, 20}, {2, 20}, {-1, maxTime}, {maxTime, 0}, {math.MinInt, math.MaxInt}, {math.MaxInt, math.MaxInt}} {
			for count := range len(args) + 1 {
				for _, l := range [][]impl.Includes{nil, chain(2, 1, 0)} {
					checkLeaf(t, l, s, cond(op, numbers[0], numbers[1], args[:count]...), first(10), false)
					checkLeaf(t, l, nil, cond(op, numbers[0], numbers[1], args[:count]...), first(10), false)
				}
			}
		}
	}
	for op := -30; op <= 300; op++ {
		checkLeaf(t, chain(2, 1, 0), s, cond(op, 0, maxTime), first(10), op >= 1 && op <= 5)
	}
}

// What is always so depends on nothing at all.
func TestTheLeafThatIsAlwaysTrue(t *testing.T) {
	for _, q := range anyRequests() {
		for _, x := range []impl.Cond{always(), cond(1, -1, -1), cond(1, 7, maxTime), cond(1, math.MinInt, math.MaxInt)} {
			for _, s := range [][]impl.Fact{nil, {}, someFacts(), noFacts()} {
				checkLeaf(t, nil, s, x, q, true)
				checkLeaf(t, ring(1, 2), s, x, q, true)
			}
		}
	}
}

// Each pair of times of a fact, at their first and last moments, with ages next to how old the fact is.
func TestLeavesAtEveryTime(t *testing.T) {
	for _, leaf := range leavesOnFacts() {
		for _, span := range [][2]int{{0, 0}, {0, 3}, {5, 5}, {5, 6}, {5, 20}, {0, maxTime}, {maxTime - 3, maxTime}, {maxTime, maxTime}} {
			s := []impl.Fact{timed(leaf.fact, span[0], span[1])}
			for _, now := range timesAround(impl.Cert{From: span[0], Until: span[1]}) {
				for _, age := range append(agesAround(), now-span[0]-1, now-span[0], now-span[0]+1) {
					want := span[0] <= now && now <= span[1] && now-span[0] <= age
					checkLeaf(t, nil, s, cond(leaf.op, leaf.a, age), first(now), want)
				}
			}
		}
	}
}

// The same request is asked at other times: the leaf holds from the fact's first time until its last one, or until it is too old.
func TestLeavesOfARequestAtOtherTimes(t *testing.T) {
	q := first(3000)
	for _, leaf := range leavesOnFacts() {
		for age := -1; age <= 30; age++ {
			for now := -2; now <= 40; now++ {
				want := now >= 5 && now <= min(20, 5+age)
				checkLeaf(t, nil, []impl.Fact{leaf.fact}, cond(leaf.op, leaf.a, age), impl.AtTime(q, now), want)
			}
		}
		checkLeaf(t, nil, []impl.Fact{leaf.fact}, cond(leaf.op, leaf.a, maxTime), q, false)
	}
}

func TestLeavesWithoutFacts(t *testing.T) {
	for _, empty := range [][]impl.Fact{nil, {}} {
		for _, leaf := range leavesOnFacts() {
			for _, age := range agesAround() {
				for _, l := range [][]impl.Includes{nil, {}, chain(5, 4, 3, 2, 1, 0), ring(0, 2, 5)} {
					checkLeaf(t, l, empty, cond(leaf.op, leaf.a, age), first(10), false)
				}
			}
		}
		checkLeaf(t, nil, empty, always(), first(10), true)
		checkLeaf(t, nil, empty, cond(6, 10, 0), first(10), true)
		checkLeaf(t, nil, empty, cond(6, 9, 0), first(10), false)
	}
}

// The fact of each kind counts for its own leaf alone.
func TestLeavesOnFactsOfOtherKinds(t *testing.T) {
	for _, leaf := range leavesOnFacts() {
		for _, other := range leavesOnFacts() {
			want := leaf.op == other.op && (leaf.a == other.a || leaf.op >= 4 && leaf.a < other.a)
			checkLeaf(t, nil, []impl.Fact{other.fact}, cond(leaf.op, leaf.a, 100), first(10), want)
		}
	}
}

func TestRolesInLeaves(t *testing.T) {
	// Role 4 includes 3 by one pair, 1 by two and 0 by three; 5 includes 4; 2 stands apart.
	l := includes([2]int{3, 1}, [2]int{1, 0}, [2]int{5, 4}, [2]int{4, 3})
	for role, want := range [][]bool{
		{true, false, false, false, false, false},
		{true, true, false, false, false, false},
		{false, false, true, false, false, false},
		{true, true, false, true, false, false},
		{true, true, false, true, true, false},
		{true, true, false, true, true, true},
	} {
		for asked := range maxRole + 1 {
			s := []impl.Fact{stated(1, 10, role)}
			checkLeaf(t, l, s, cond(2, asked, 20), first(10), want[asked])
			checkLeaf(t, nil, s, cond(2, asked, 20), first(10), asked == role)
			checkLeaf(t, []impl.Includes{}, s, cond(2, asked, 20), first(10), asked == role)
			checkLeaf(t, l, s, cond(2, asked, 20), first(4), false)
			checkLeaf(t, l, s, cond(2, asked, 20), first(21), false)
			checkLeaf(t, l, s, cond(2, asked, 4), first(10), false)
			checkLeaf(t, l, s, cond(2, asked, 5), first(10), want[asked])
		}
		for _, asked := range noRoles() {
			checkLeaf(t, l, []impl.Fact{stated(1, 10, role)}, cond(2, asked, 20), first(10), false)
			checkLeaf(t, chain(role, asked), []impl.Fact{stated(1, 10, role), stated(1, 10, asked)}, cond(2, asked, 20), first(10), false)
		}
	}
}

func TestRolesInLeavesByAnyPairs(t *testing.T) {
	for _, l := range append(somePairs(), noPairs()...) {
		for role := -1; role <= maxRole+1; role++ {
			s := []impl.Fact{stated(1, 10, role), stated(1, 11, 5-role)}
			for asked := -1; asked <= maxRole+1; asked++ {
				checkLeafByParts(t, l, s, cond(2, asked, 20), first(10))
				checkLeafByParts(t, l, s, cond(2, asked, 20), request(11, 20, 30, 0, 40, 10))
			}
		}
	}
	// By pairs that reach themselves, all roles of the ring are had.
	s := []impl.Fact{stated(1, 10, 3)}
	for _, l := range [][]impl.Includes{ring(3), ring(3, 1), ring(1, 4, 3), ring(1, 4), slices.Repeat(ring(3, 0), 20)} {
		for asked := range maxRole + 1 {
			want := slices.Contains(routesOf(l).under(3), asked)
			checkLeaf(t, l, s, cond(2, asked, 20), first(10), want)
		}
	}
	checkLeaf(t, ring(1, 4, 3), s, cond(2, 4, 20), first(10), true)
	checkLeaf(t, ring(1, 4), s, cond(2, 4, 20), first(10), false)
}

// Each name is asked by each other one of its kind.
func TestLeavesAboutOthers(t *testing.T) {
	for n := range 10 {
		s := []impl.Fact{stated(1, 10+n, 2), stated(2, 10+n, 29-n), stated(3, 20+n, 1), stated(4, 30+n, 3)}
		for m := range 10 {
			checkLeaf(t, nil, s, cond(2, 2, 20), request(10+m, 20, 30, 0, 40, 10), n == m)
			checkLeaf(t, nil, s, cond(4, 1, 20), request(10, 20+m, 30, 0, 40, 10), n == m)
			checkLeaf(t, nil, s, cond(5, 3, 20), request(10, 20, 30+m, 0, 40, 10), n == m)
			for d := range 10 {
				checkLeaf(t, nil, s, cond(3, 0, 20), request(10+m, 20+d, 30, 0, 40, 10), n == m && d == 9-n)
			}
		}
	}
}

// A person owns the device that another one asks from, or asks from a device that another person owns.
func TestOwnersOfOtherDevices(t *testing.T) {
	s := storeOf(t, stated(2, 10, 21), stated(2, 11, 20), stated(2, 12, 22))
	for person := 9; person <= 14; person++ {
		for device := 19; device <= 24; device++ {
			want := person == 10 && device == 21 || person == 11 && device == 20 || person == 12 && device == 22
			for a := -2; a <= 6; a++ {
				checkLeaf(t, chain(5, 0), s, cond(3, a, 20), request(person, device, 30, 0, 40, 10), want)
			}
		}
	}
	for _, a := range atTheEnds() {
		checkLeaf(t, nil, s, cond(3, a, 20), request(10, 21, 30, 0, 40, 10), true)
		checkLeaf(t, nil, s, cond(3, a, 20), first(10), false)
	}
}

// The device has a health and the program a build; neither has the other's.
func TestDevicesAndProgramsExchanged(t *testing.T) {
	q := first(10)
	checkLeaf(t, nil, []impl.Fact{stated(3, 20, 3)}, cond(5, 0, 20), q, false)
	checkLeaf(t, nil, []impl.Fact{stated(4, 30, 3)}, cond(4, 0, 20), q, false)
	for _, s := range [][]impl.Fact{
		{stated(3, 30, 3)},
		{stated(4, 20, 3)},
		{stated(3, 30, 3), stated(4, 20, 3)},
		{stated(3, 10, 3), stated(4, 10, 3), stated(3, 40, 3), stated(4, 40, 3)},
	} {
		checkLeaf(t, nil, s, cond(4, 0, 20), q, false)
		checkLeaf(t, nil, s, cond(5, 0, 20), q, false)
	}
	exchanged := request(10, 30, 20, 0, 40, 10)
	s := []impl.Fact{stated(3, 20, 3), stated(4, 30, 3), stated(3, 30, 3), stated(4, 20, 3)}
	checkLeaf(t, nil, s, cond(4, 0, 20), exchanged, false)
	checkLeaf(t, nil, s, cond(5, 0, 20), exchanged, false)
	checkLeaf(t, nil, s, cond(4, 3, 20), q, true)
	checkLeaf(t, nil, s, cond(5, 3, 20), q, true)
	// One has a greater value than the other.
	unlike := storeOf(t, stated(3, 20, 1), stated(4, 30, 2))
	for a := -1; a <= 4; a++ {
		checkLeaf(t, nil, unlike, cond(4, a, 20), q, a <= 1)
		checkLeaf(t, nil, unlike, cond(5, a, 20), q, a <= 2)
	}
}

// The person and the device of a fact may not stand for each other, nor may the object for any of them.
func TestNamesInOtherParts(t *testing.T) {
	s := []impl.Fact{stated(2, 20, 10), stated(1, 20, 2), stated(1, 40, 2), stated(2, 40, 20), stated(2, 10, 40), stated(2, 10, 30), stated(3, 40, 3), stated(4, 40, 3), stated(2, 10, 20), stated(1, 10, 2), stated(3, 20, 3), stated(4, 30, 3)}
	names := []int{10, 20, 30, 40}
	for _, person := range names {
		for _, device := range names {
			for _, program := range names {
				for _, object := range names {
					q := request(person, device, program, 0, object, 10)
					checkLeaf(t, nil, s, cond(2, 2, 20), q, person == 10)
					checkLeaf(t, nil, s, cond(3, 0, 20), q, person == 10 && device == 20)
					checkLeaf(t, nil, s, cond(4, 3, 20), q, device == 20)
					checkLeaf(t, nil, s, cond(5, 3, 20), q, program == 30)
				}
			}
		}
	}
}

// Facts of one kind and about one name, of which the greatest is the oldest, and the least the newest.
func TestTheBestOfSeveralFacts(t *testing.T) {
	for _, form := range factForms()[2:] {
		op := form.kind + 1
		s := storeOf(t,
			timed(stated(form.kind, form.firstSubject, 3), 5, 11),
			timed(stated(form.kind, form.firstSubject, 2), 7, 30),
			timed(stated(form.kind, form.firstSubject, 1), 8, 30),
			timed(stated(form.kind, form.firstSubject, 0), 9, 30),
		)
		for _, c := range []struct{ now, age, best int }{
			{10, 100, 3}, {10, 5, 3}, {10, 4, 2}, {10, 3, 2}, {10, 2, 1}, {10, 1, 0}, {10, 0, -1}, {10, -1, -1}, {10, math.MinInt, -1}, {10, math.MaxInt, 3},
			{11, 100, 3}, {12, 100, 2}, {12, 4, 1}, {12, 3, 0}, {12, 2, -1}, {9, 0, 0}, {8, 0, 1}, {8, 1, 2}, {8, 3, 3}, {7, 1, 2}, {6, 100, 3}, {4, 100, -1}, {30, 100, 2}, {31, 100, -1},
		} {
			for a := -3; a <= 6; a++ {
				for _, ordered := range inOrders(s) {
					checkLeaf(t, nil, ordered, cond(op, a, c.age), first(c.now), a <= c.best)
				}
			}
			for _, a := range []int{math.MinInt, math.MinInt + 1, -maxTime} {
				checkLeaf(t, nil, s, cond(op, a, c.age), first(c.now), true)
			}
			for _, a := range []int{maxTime, 1 << 32, math.MaxInt} {
				checkLeaf(t, nil, s, cond(op, a, c.age), first(c.now), false)
			}
		}
	}
}

// Where no fact holds, the best value is -1, which is at least an A of -1 or less.
func TestLeavesBelowAllLevels(t *testing.T) {
	for _, op := range []int{4, 5} {
		for _, s := range [][]impl.Fact{nil, {}, noFacts(), {stated(3, 21, 3), stated(4, 31, 3)}, storeOfFirst(t)} {
			for _, q := range append(anyRequests(), first(4), first(21)) {
				for _, age := range agesAround() {
					checkLeaf(t, nil, s, cond(op, -1, age), q, true)
					checkLeaf(t, nil, s, cond(op, -2, age), q, true)
					checkLeaf(t, nil, s, cond(op, math.MinInt, age), q, true)
					checkLeaf(t, nil, s, cond(op, 4, age), q, false)
				}
			}
		}
		checkLeaf(t, nil, nil, cond(op, 0, 20), first(10), false)
	}
	// A role and an owner have no such value.
	checkLeaf(t, nil, nil, cond(2, -1, 20), first(10), false)
	checkLeaf(t, nil, nil, cond(3, -1, 20), first(10), false)
}

func TestLeavesBeforeEveryTime(t *testing.T) {
	times := slices.Concat(timesAtTheEnds(), noTimes(), []int{20, 21, 22, 500})
	for _, now := range times {
		for _, a := range append(times, now-1, now, now+1) {
			for _, b := range []int{0, -1, 7, math.MinInt, math.MaxInt} {
				checkLeaf(t, nil, nil, cond(6, a, b), first(now), now <= a)
			}
		}
	}
	for now := 0; now < maxTime; now++ {
		if !impl.LeafHolds(nil, nil, cond(6, now, 0), first(now)) || impl.LeafHolds(nil, nil, cond(6, now, 0), first(now+1)) {
			t.Errorf("before %d", now)
		}
	}
}

// Also the facts that are there do not matter before a time.
func TestLeavesBeforeATimeDependOnNowOnly(t *testing.T) {
	for _, q := range anyRequests() {
		for _, s := range [][]impl.Fact{nil, someFacts(), noFacts(), storeOfFirst(t)} {
			for _, l := range [][]impl.Includes{nil, chain(5, 0), ring(2)} {
				checkLeaf(t, l, s, cond(6, 10, 0), q, q.Now <= 10)
				checkLeaf(t, l, s, cond(6, 0, 0), q, q.Now <= 0)
			}
		}
	}
}

// A leaf looks only at the parts that it names, also where others are not valid.
func TestLeavesOfRequestsThatAreNotValid(t *testing.T) {
	s := storeOfFirst(t)
	named := map[int][]string{2: {"Person", "Now"}, 3: {"Person", "Device", "Now"}, 4: {"Device", "Now"}, 5: {"Program", "Now"}}
	for op, a := range map[int]int{2: 2, 3: 0, 4: 1, 5: 3} {
		for _, p := range partsOfRequests() {
			for _, n := range p.numbers() {
				q := p.in(first(10), n)
				want := !slices.Contains(named[op], p.name) || q == first(10) || p.name == "Now" && n >= 5 && n <= 20
				checkLeaf(t, nil, s, cond(op, a, 20), q, want)
			}
		}
	}
	for _, q := range noRequests() {
		for _, x := range append(goodLeaves(), badNodes()...) {
			checkLeafByParts(t, chain(2, 0), s, x, q)
		}
	}
}

// The numbers of a leaf need not be those of a valid condition.
func TestLeavesOfAnyNumbers(t *testing.T) {
	s := storeOfFirst(t)
	numbers := append(atTheEnds(), 3, 4, 6, 10, 20, maxTime-1, maxTime, maxTime+1)
	for op := -1; op <= 11; op++ {
		for _, a := range numbers {
			for _, b := range numbers {
				for _, now := range []int{-1, 0, 5, 10, 20, 21, maxTime, maxTime + 1} {
					checkLeafByParts(t, chain(2, 0), s, cond(op, a, b), first(now))
				}
			}
		}
	}
}

// Arguments that lead back to themselves, or are very many, are not looked at.
func TestArgumentsOfLeaves(t *testing.T) {
	s := storeOfFirst(t)
	back := make([]impl.Cond, 2)
	for i := range back {
		back[i] = impl.Cond{Op: 8, Args: back}
	}
	for _, args := range [][]impl.Cond{{}, back, badNodes(), make([]impl.Cond, 100000), {negations(100000, always())}} {
		for _, c := range []struct {
			x    impl.Cond
			want bool
		}{
			{cond(1, 0, 0, args...), true},
			{cond(2, 2, 20, args...), true},
			{cond(2, 3, 20, args...), false},
			{cond(3, 0, 20, args...), true},
			{cond(3, 0, 4, args...), false},
			{cond(4, 1, 20, args...), true},
			{cond(4, 2, 20, args...), false},
			{cond(5, 3, 20, args...), true},
			{cond(5, 4, 20, args...), false},
			{cond(6, 10, 0, args...), true},
			{cond(6, 9, 0, args...), false},
			{cond(7, 0, 0, args...), false},
			{cond(8, 0, 0, args...), false},
			{cond(9, 0, 0, args...), false},
			{cond(0, 0, 0, args...), false},
		} {
			if got := impl.LeafHolds(nil, s, c.x, first(10)); got != c.want {
				t.Errorf("LeafHolds of the operation %d, A %d, with %d arguments = %v", c.x.Op, c.x.A, len(args), got)
			}
		}
	}
}

// Lists that are no store are taken as they are; what is no fact is passed over.
func TestLeavesOnListsThatAreNoStore(t *testing.T) {
	for _, s := range append(noStores(), noFacts(), slices.Repeat(storeOfFirst(t), 40)) {
		for _, person := range []int{10, 19} {
			for _, q := range []impl.Request{request(person, 20, 39, 0, 40, 10), request(person, 29, 30, 0, 40, 150), request(person, 20, 30, 0, 40, 201)} {
				for _, leaf := range leavesOnFacts() {
					for _, age := range []int{-1, 0, 49, 50, 100, math.MaxInt} {
						checkLeafByParts(t, chain(5, 0), s, cond(leaf.op, leaf.a, age), q)
					}
				}
			}
		}
	}
	for _, f := range noFacts() {
		for now := -1; now <= 21; now++ {
			for _, x := range []impl.Cond{cond(2, 3, math.MaxInt), cond(3, 0, math.MaxInt), cond(4, 0, math.MaxInt), cond(5, 0, math.MaxInt)} {
				q := request(f.Subject, f.Value, f.Subject, 0, 40, now)
				checkLeaf(t, nil, []impl.Fact{f, f}, x, q, false)
				q = request(10, f.Subject, f.Subject, 0, 40, now)
				checkLeaf(t, nil, []impl.Fact{f, f}, x, q, false)
			}
		}
	}
}

// Two facts of one claim, or of two issuers, of which only one holds.
func TestLeavesOnTwoFacts(t *testing.T) {
	for _, leaf := range leavesOnFacts() {
		early, late := timed(leaf.fact, 5, 10), timed(leaf.fact, 8, 14)
		other := late
		other.Issuer = 7
		for _, s := range [][]impl.Fact{{early, late}, {late, early}, {early, other}, {other, early}, {early, late, other, early}} {
			for now := 3; now <= 16; now++ {
				for age := -1; age <= 10; age++ {
					want := 5 <= now && now <= min(10, 5+age) || 8 <= now && now <= min(14, 8+age)
					checkLeaf(t, nil, s, cond(leaf.op, leaf.a, age), first(now), want)
				}
			}
		}
	}
}

// judged is all that a leaf is told by.
type judged struct {
	l []impl.Includes
	s []impl.Fact
	x impl.Cond
	q impl.Request
}

// drawnLeaves draws leaves, requests and facts about few names and times, so that many leaves hold, and many do not.
func drawnLeaves(seed uint32, count int) []judged {
	draw := func(n int) int {
		seed = seed*1664525 + 1013904223
		return int(seed>>16) % n
	}
	var list []judged
	for range count {
		var c judged
		for range draw(6) {
			c.l = append(c.l, impl.Includes{Greater: draw(7), Lesser: draw(7)})
		}
		for range draw(20) {
			form := factForms()[draw(4)]
			at := draw(6)
			f := impl.Fact{Kind: form.kind, Subject: form.firstSubject + draw(2), Value: form.firstValue + draw(4), Issuer: draw(11), At: at, Until: at + draw(9) - 1}
			c.s = append(c.s, f)
		}
		c.x = cond(1+draw(6), draw(4), draw(9)-1)
		c.q = request(10+draw(2), 20+draw(2), 30+draw(2), draw(7), 40, 2+draw(6))
		list = append(list, c)
	}
	return list
}

func TestDrawnLeaves(t *testing.T) {
	held := map[int][2]int{}
	for seed := range uint32(40) {
		for _, c := range drawnLeaves(seed, 500) {
			checkLeafByParts(t, c.l, c.s, c.x, c.q)
			counts := held[c.x.Op]
			if leafByParts(c.l, c.s, c.x, c.q) {
				counts[1]++
			} else {
				counts[0]++
			}
			held[c.x.Op] = counts
		}
	}
	for op := 1; op <= 6; op++ {
		if held[op][1] < 200 || op > 1 && held[op][0] < 200 {
			t.Errorf("leaves with the operation %d: %v", op, held[op])
		}
	}
}

// furtherFacts holds facts of many claims about the names of the drawn requests, some of them not valid.
func furtherFacts() []impl.Fact {
	var facts []impl.Fact
	for _, form := range factForms() {
		for n := range 2 {
			for value := range 4 {
				for _, span := range [][2]int{{0, 3}, {2, 9}, {4, 4}, {9, 8}} {
					facts = append(facts, impl.Fact{Kind: form.kind, Subject: form.firstSubject + n, Value: form.firstValue + value, Issuer: 3 * n, At: span[0], Until: span[1]})
				}
			}
		}
	}
	return facts
}

func hasClaim(s []impl.Fact, f impl.Fact) bool {
	return slices.ContainsFunc(s, func(g impl.Fact) bool { return timed(g, 0, 0) == timed(f, 0, 0) })
}

// The promise: one more fact of a claim that is not in the store takes nothing away from a leaf.
func TestFurtherFactsTakeNothingAway(t *testing.T) {
	kept, gained := map[int]int{}, map[int]int{}
	for seed := range uint32(6) {
		for _, c := range drawnLeaves(seed+500, 60) {
			s := impl.MergeStores(nil, c.s)
			holds := impl.LeafHolds(c.l, s, c.x, c.q)
			for _, f := range furtherFacts() {
				more, isPut := impl.PutFact(s, f)
				if !isPut || hasClaim(s, f) {
					continue
				}
				still := impl.LeafHolds(c.l, more, c.x, c.q)
				if holds && !still {
					t.Errorf("by %v and %v, %v for %+v holds only without %v", c.l, s, c.x, c.q, f)
				}
				if holds {
					kept[c.x.Op]++
				} else if still {
					gained[c.x.Op]++
				}
			}
		}
	}
	for op := 1; op <= 6; op++ {
		dependsOnFacts := op >= 2 && op <= 5
		if kept[op] < 200 || (gained[op] > 0) != dependsOnFacts {
			t.Errorf("the operation %d: held %d times, began to hold %d times", op, kept[op], gained[op])
		}
	}
}

// Also in lists that are no store, wherever the fact is put, and also if it is not valid.
func TestFurtherFactsAtEveryPlace(t *testing.T) {
	for seed := range uint32(4) {
		for _, c := range drawnLeaves(seed+900, 40) {
			if !impl.LeafHolds(c.l, c.s, c.x, c.q) {
				continue
			}
			for _, f := range append(furtherFacts(), noFacts()...) {
				for place := range len(c.s) + 1 {
					if !impl.LeafHolds(c.l, with(c.s, place, f), c.x, c.q) {
						t.Errorf("by %v and %v, %v for %+v holds only without %v at %d", c.l, c.s, c.x, c.q, f, place)
					}
				}
			}
		}
	}
}

// A store grows fact by fact; each leaf that has begun to hold goes on to do so.
func TestLeavesOfAGrowingStore(t *testing.T) {
	q := request(10, 20, 30, 1, 41, 150)
	var leaves []impl.Cond
	for op := 1; op <= 6; op++ {
		for a := range 7 {
			for _, b := range []int{0, 49, 50, 100, maxTime} {
				leaves = append(leaves, cond(op, a, b), cond(op, 147+a, b))
			}
		}
	}
	claims := listedClaims()[:maxFacts]
	for _, step := range []int{1, 7, 11, 29} {
		s := []impl.Fact{}
		held := make([]bool, len(leaves))
		for i := range claims {
			more, isPut := impl.PutFact(s, claims[(i*step+3)%len(claims)])
			if !isPut || len(more) != len(s)+1 {
				t.Fatalf("%d facts after %d", len(more), len(s))
			}
			s = more
			for j, x := range leaves {
				holds := impl.LeafHolds(chain(5, 3), s, x, q)
				if held[j] && !holds {
					t.Errorf("%v holds no more by %v", x, s)
				}
				held[j] = holds
				checkLeafByParts(t, chain(5, 3), s, x, q)
			}
		}
	}
}

func TestLeafHoldsLeavesItsArguments(t *testing.T) {
	conds := append(goodLeaves(), badNodes()...)
	lists := append(noStores(), nil, []impl.Fact{}, someFacts(), noFacts(), storeOfFirst(t))
	for i, pairs := range append(somePairs(), noPairs()...) {
		facts := lists[i%len(lists)]
		for j, want := range conds {
			l, s, x := sparedPairs(pairs), sparedFacts(facts), sparedCond(want)
			q := anyRequests()[j%20]
			checkLeafByParts(t, l, s, x, q)
			checkLeafByParts(t, l, s, x, first(10))
			if !arePairsUntouched(l, pairs) || !areFactsUntouched(s, facts) || !isCondUntouched(x, want) {
				t.Errorf("%v, %v and %v became %v, %v and %v", pairs, facts, want, l, s, x)
			}
		}
	}
}

// What stands in the spare capacity is neither a pair nor a fact.
func TestPairsAndFactsBehindTheLists(t *testing.T) {
	pairs := chain(5, 3, 1)
	facts := []impl.Fact{stated(1, 10, 5), stated(2, 10, 20), stated(3, 20, 2), stated(4, 30, 2)}
	for count := range len(facts) + 1 {
		s := facts[:count]
		checkLeaf(t, pairs[:0], s, cond(2, 5, 20), first(10), count > 0)
		checkLeaf(t, pairs[:0], s, cond(2, 3, 20), first(10), false)
		checkLeaf(t, pairs[:1], s, cond(2, 3, 20), first(10), count > 0)
		checkLeaf(t, pairs[:1], s, cond(2, 1, 20), first(10), false)
		checkLeaf(t, pairs, s, cond(2, 1, 20), first(10), count > 0)
		checkLeaf(t, pairs, s, cond(3, 0, 20), first(10), count > 1)
		checkLeaf(t, pairs, s, cond(4, 2, 20), first(10), count > 2)
		checkLeaf(t, pairs, s, cond(5, 2, 20), first(10), count > 3)
	}
}
