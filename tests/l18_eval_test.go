package tests

import (
	"math"
	"slices"
	"testing"

	"loop.example/g00594/impl"
)

// longest is the greatest number of times that HoldsUntil looks ahead.
const longest = 60

func never() impl.Cond {
	return inner(7, always())
}

// These four are a second account of evaluation. The first two look at every node, and count what holds as 1.

func evalByParts(l []impl.Includes, s []impl.Fact, x impl.Cond, q impl.Request) bool {
	return isGoodCond(x) && countByParts(l, s, x, q) == 1
}

func countByParts(l []impl.Includes, s []impl.Fact, x impl.Cond, q impl.Request) int {
	var counts []int
	for _, arg := range x.Args {
		counts = append(counts, countByParts(l, s, arg, q))
	}
	switch x.Op {
	case 7:
		return 1 - counts[0]
	case 8:
		return counts[0] * counts[1]
	case 9:
		return counts[0] + counts[1] - counts[0]*counts[1]
	}
	if leafByParts(l, s, x, q) {
		return 1
	}
	return 0
}

// usedByParts asks each leaf about each fact alone.
func usedByParts(s []impl.Fact, x impl.Cond, q impl.Request) []int {
	subjects := map[int]int{2: q.Person, 3: q.Person, 4: q.Device, 5: q.Program}
	var used []int
	for i := range s {
		for _, leaf := range leavesByParts(x) {
			values := valuesByParts(s[i:i+1], leaf.Op-1, subjects[leaf.Op], q.Now, leaf.B)
			if leaf.Op == 3 {
				values = slices.DeleteFunc(values, func(v int) bool { return v != q.Device })
			}
			if leaf.Op <= 5 && len(values) > 0 && !slices.Contains(used, i) {
				used = append(used, i)
			}
		}
	}
	return used
}

func untilByParts(l []impl.Includes, s []impl.Fact, x impl.Cond, q impl.Request, most int) int {
	if !isGoodRequest(q) || most < 0 || most > longest {
		return q.Now
	}
	end := min(q.Now+most, maxTime)
	later := q
	for later.Now < end {
		later.Now++
		if evalByParts(l, s, x, later) != evalByParts(l, s, x, q) {
			return later.Now - 1
		}
	}
	return end
}

// checkEval asks twice.
func checkEval(t *testing.T, l []impl.Includes, s []impl.Fact, x impl.Cond, q impl.Request, want bool) {
	t.Helper()
	if evalByParts(l, s, x, q) != want {
		t.Errorf("evalByParts(%v, %v, %v, %+v) is not %v", l, s, x, q, want)
	}
	for range 2 {
		if got := impl.EvalCond(l, s, x, q); got != want {
			t.Errorf("EvalCond(%v, %v, %v, %+v) = %v", l, s, x, q, got)
		}
	}
}

func checkEvalByParts(t *testing.T, l []impl.Includes, s []impl.Fact, x impl.Cond, q impl.Request) {
	t.Helper()
	checkEval(t, l, s, x, q, evalByParts(l, s, x, q))
}

// checkUsed asks also by other pairs, on which it does not depend which facts are named.
func checkUsed(t *testing.T, s []impl.Fact, x impl.Cond, q impl.Request, want ...int) {
	t.Helper()
	if byParts := usedByParts(s, x, q); !slices.Equal(byParts, want) {
		t.Errorf("usedByParts(%v, %v, %+v) = %v, want %v", s, x, q, byParts, want)
	}
	for _, l := range [][]impl.Includes{nil, chain(5, 4, 3, 2, 1, 0), {}, ring(0, 2), nil} {
		if got := impl.UsedFacts(l, s, x, q); !slices.Equal(got, want) {
			t.Errorf("UsedFacts(%v, %v, %v, %+v) = %v, want %v", l, s, x, q, got, want)
		}
	}
}

func checkUsedByParts(t *testing.T, s []impl.Fact, x impl.Cond, q impl.Request) {
	t.Helper()
	checkUsed(t, s, x, q, usedByParts(s, x, q)...)
}

func checkOnly(t *testing.T, s []impl.Fact, keep []int, want ...impl.Fact) {
	t.Helper()
	for range 2 {
		if got := impl.OnlyFacts(s, keep); !slices.Equal(got, want) {
			t.Errorf("OnlyFacts(%v, %v) = %v, want %v", s, keep, got, want)
		}
	}
}

func checkNever(t *testing.T, x impl.Cond, list []impl.Request, l []impl.Includes, s []impl.Fact, want bool) {
	t.Helper()
	for range 2 {
		if got := impl.NeverHolds(x, list, l, s); got != want {
			t.Errorf("NeverHolds(%v, %v, %v, %v) = %v", x, list, l, s, got)
		}
	}
}

func checkUntil(t *testing.T, l []impl.Includes, s []impl.Fact, x impl.Cond, q impl.Request, most, want int) {
	t.Helper()
	if byParts := untilByParts(l, s, x, q, most); byParts != want {
		t.Errorf("untilByParts(%v, %v, %v, %+v, %d) = %d, want %d", l, s, x, q, most, byParts, want)
	}
	for range 2 {
		if got := impl.HoldsUntil(l, s, x, q, most); got != want {
			t.Errorf("HoldsUntil(%v, %v, %v, %+v, %d) = %d, want %d", l, s, x, q, most, got, want)
		}
	}
}

func checkUntilByParts(t *testing.T, l []impl.Includes, s []impl.Fact, x impl.Cond, q impl.Request, most int) {
	t.Helper()
	checkUntil(t, l, s, x, q, most, untilByParts(l, s, x, q, most))
}

// factsOfTwo tells something about the names of the request first, and about others.
func factsOfTwo(t *testing.T) []impl.Fact {
	t.Helper()
	return storeOf(t,
		impl.Fact{Kind: 1, Subject: 10, Value: 2, Issuer: 1, At: 5, Until: 12},
		impl.Fact{Kind: 1, Subject: 10, Value: 4, Issuer: 3, At: 9, Until: 30},
		impl.Fact{Kind: 1, Subject: 11, Value: 2, Issuer: 1, At: 5, Until: 30},
		impl.Fact{Kind: 2, Subject: 10, Value: 20, Issuer: 1, At: 8, Until: 30},
		impl.Fact{Kind: 2, Subject: 10, Value: 21, Issuer: 1, At: 8, Until: 30},
		impl.Fact{Kind: 2, Subject: 11, Value: 20, Issuer: 1, At: 8, Until: 30},
		impl.Fact{Kind: 3, Subject: 20, Value: 1, Issuer: 1, At: 10, Until: 30},
		impl.Fact{Kind: 3, Subject: 20, Value: 2, Issuer: 2, At: 7, Until: 30},
		impl.Fact{Kind: 3, Subject: 21, Value: 3, Issuer: 2, At: 9, Until: 30},
		impl.Fact{Kind: 4, Subject: 30, Value: 1, Issuer: 1, At: 10, Until: 10},
		impl.Fact{Kind: 4, Subject: 31, Value: 3, Issuer: 1, At: 10, Until: 30},
	)
}

func TestEvalCond(t *testing.T) {
	s := factsOfTwo(t)
	l := chain(2, 1, 0)
	role, owns, health, build, before := cond(2, 1, 5), cond(3, 0, 2), cond(4, 2, 3), cond(5, 1, 0), cond(6, 10, 0)
	for _, c := range []struct {
		x    impl.Cond
		now  int
		want bool
	}{
		{always(), 10, true},
		{never(), 10, false},
		{role, 10, true},
		{role, 11, false},
		{owns, 10, true},
		{owns, 11, false},
		{health, 10, true},
		{health, 11, false},
		{build, 10, true},
		{build, 11, false},
		{before, 10, true},
		{before, 11, false},
		{cond(2, 3, 5), 10, false},
		{cond(2, 4, 5), 10, true},
		{cond(2, 4, 0), 10, false},
		{cond(4, 2, 2), 10, false},
		{cond(4, 1, 2), 10, true},
		{cond(4, 3, 20), 10, false},
		{inner(7, role), 10, false},
		{inner(7, role), 11, true},
		{inner(7, inner(7, role)), 10, true},
		{inner(7, inner(7, role)), 11, false},
		{inner(8, role, owns), 10, true},
		{inner(8, role, cond(3, 0, 1)), 10, false},
		{inner(8, cond(3, 0, 1), role), 10, false},
		{inner(8, cond(3, 0, 1), cond(4, 3, 20)), 10, false},
		{inner(9, role, owns), 10, true},
		{inner(9, role, cond(3, 0, 1)), 10, true},
		{inner(9, cond(3, 0, 1), role), 10, true},
		{inner(9, cond(3, 0, 1), cond(4, 3, 20)), 10, false},
		{inner(8, role, inner(7, health)), 10, false},
		{inner(8, cond(2, 1, 6), inner(7, health)), 11, true},
		{inner(9, inner(8, role, inner(7, health)), inner(8, build, before)), 10, true},
		{inner(9, inner(8, role, inner(7, health)), inner(8, build, before)), 11, false},
		{inner(7, inner(9, inner(8, role, inner(7, health)), inner(8, build, before))), 11, true},
		{inner(8, inner(9, role, before), inner(9, build, always())), 12, false},
		{inner(8, inner(9, role, inner(7, before)), inner(9, build, always())), 12, true},
	} {
		checkEval(t, l, s, c.x, first(c.now), c.want)
	}
}

// heldAndNot holds, for each operation without arguments, leaves that hold for the request first at 10, and leaves that do not.
func heldAndNot() (held, not []impl.Cond) {
	held = []impl.Cond{always(), cond(2, 4, 1), cond(3, 0, 2), cond(4, 2, 3), cond(5, 1, 0), cond(6, 10, 0)}
	not = []impl.Cond{never(), cond(2, 4, 0), cond(3, 0, 1), cond(4, 2, 2), cond(5, 2, 0), cond(6, 9, 0)}
	return held, not
}

func TestEvalCondOfEveryTwoValues(t *testing.T) {
	s, q := factsOfTwo(t), first(10)
	held, not := heldAndNot()
	for i, a := range append(slices.Clone(held), not...) {
		isA := i < len(held)
		checkEval(t, nil, s, a, q, isA)
		checkEval(t, nil, s, inner(7, a), q, !isA)
		checkEval(t, nil, s, inner(7, inner(7, a)), q, isA)
		checkEval(t, nil, s, inner(7, inner(7, inner(7, a))), q, !isA)
		for j, b := range append(slices.Clone(held), not...) {
			isB := j < len(held)
			checkEval(t, nil, s, inner(8, a, b), q, isA && isB)
			checkEval(t, nil, s, inner(9, a, b), q, isA || isB)
			checkEval(t, nil, s, inner(8, inner(7, a), b), q, !isA && isB)
			checkEval(t, nil, s, inner(8, a, inner(7, b)), q, isA && !isB)
			checkEval(t, nil, s, inner(9, inner(7, a), b), q, !isA || isB)
			checkEval(t, nil, s, inner(9, a, inner(7, b)), q, isA || !isB)
			checkEval(t, nil, s, inner(7, inner(8, a, b)), q, !(isA && isB))
			checkEval(t, nil, s, inner(7, inner(9, a, b)), q, !(isA || isB))
		}
	}
}

// Three values, and both operations at each of the two nodes, leaning to either side.
func TestEvalCondOfEveryThreeValues(t *testing.T) {
	s, q := factsOfTwo(t), first(10)
	held, not := heldAndNot()
	joined := func(op int, a, b bool) bool {
		if op == 8 {
			return a && b
		}
		return a || b
	}
	for set := range 8 {
		for start := range len(held) {
			var leaves []impl.Cond
			var values []bool
			for k := range 3 {
				isHeld := set>>k&1 == 1
				leaf := not[(start+k)%len(not)]
				if isHeld {
					leaf = held[(start+k)%len(held)]
				}
				leaves, values = append(leaves, leaf), append(values, isHeld)
			}
			for op := 8; op <= 9; op++ {
				for other := 8; other <= 9; other++ {
					x := inner(op, inner(other, leaves[0], leaves[1]), leaves[2])
					checkEval(t, nil, s, x, q, joined(op, joined(other, values[0], values[1]), values[2]))
					x = inner(op, leaves[0], inner(other, leaves[1], leaves[2]))
					checkEval(t, nil, s, x, q, joined(op, values[0], joined(other, values[1], values[2])))
				}
			}
		}
	}
}

// Each leaf holds exactly as LeafHolds tells, at every time and with every age.
func TestEvalCondOfLeaves(t *testing.T) {
	s := factsOfTwo(t)
	for op := 1; op <= 6; op++ {
		f, _ := shapeOf(op)
		for a := 0; a <= min(f.mostA, 14); a++ {
			for b := 0; b <= min(f.mostB, 25); b++ {
				for now := 0; now <= 33; now++ {
					x := cond(op, a, b)
					want := leafByParts(chain(4, 3), s, x, first(now))
					checkEval(t, chain(4, 3), s, x, first(now), want)
					if impl.EvalCond(chain(4, 3), s, inner(7, x), first(now)) == want {
						t.Errorf("%v and its negation are both %v at %d", x, want, now)
					}
				}
			}
		}
	}
}

func TestEvalCondOfTheDeepestConditions(t *testing.T) {
	s, q := factsOfTwo(t), first(10)
	held, not := heldAndNot()
	for i, leaf := range append(slices.Clone(held), not[1:]...) {
		isHeld := i < len(held)
		for n := range 20 {
			checkEval(t, nil, s, negations(n, leaf), q, n < maxCond && isHeld == (n%2 == 0))
			for side := range 2 {
				checkEval(t, nil, s, leaning(side, n, leaf), q, n <= 7 && isHeld)
				checkEval(t, nil, s, negations(1, leaning(side, n, leaf)), q, n <= 6 && !isHeld)
			}
		}
		for depth := range 7 {
			checkEval(t, nil, s, full(depth, leaf), q, depth <= 3 && isHeld)
			checkEval(t, nil, s, negations(1, full(depth, leaf)), q, depth <= 2 && !isHeld)
		}
	}
}

// Eight leaves stand at the ends of three levels; the value needs all of them, some, or the last one only.
func TestEvalCondOfEightLeaves(t *testing.T) {
	s, q := factsOfTwo(t), first(10)
	held, not := heldAndNot()
	for set := range 256 {
		is := func(k int) bool { return set>>k&1 == 1 }
		x := full(3, always())
		leaves := nodesIn(&x)
		k := 0
		for _, node := range leaves {
			if node.Op != 1 {
				continue
			}
			*node = not[1:][k%5]
			if is(k) {
				*node = held[1:][k%5]
			}
			k++
		}
		want := (is(0) || is(1)) && (is(2) || is(3)) || (is(4) || is(5)) && (is(6) || is(7))
		checkEval(t, nil, s, x, q, want)
		flipped := changedAt(x, 0, func(node *impl.Cond) { node.Op = 8 })
		checkEval(t, nil, s, flipped, q, (is(0) || is(1)) && (is(2) || is(3)) && (is(4) || is(5)) && (is(6) || is(7)))
	}
}

// Every condition with few nodes, of leaves of which one holds and one does not.
func TestEvalCondOfEveryConditionWithFewNodes(t *testing.T) {
	s := factsOfTwo(t)
	for _, list := range condsOfSize(6, []impl.Cond{cond(2, 4, 1), cond(4, 2, 2), always()}, 7, 8, 9) {
		for _, x := range list {
			checkEvalByParts(t, nil, s, x, first(10))
			checkEvalByParts(t, nil, s, x, first(9))
		}
	}
}

// badParts holds conditions that are wrong in one part, and those that are too large only together with what they stand in.
func badParts() []impl.Cond {
	list := badNodes()
	for _, x := range []impl.Cond{always(), cond(2, 4, 1), cond(6, 0, 0)} {
		list = append(list, negations(11, x), negations(12, x), full(3, x), leaning(0, 6, x), leaning(1, 6, x))
	}
	return list
}

// The value of the other part is enough, but the wrong part makes the whole wrong.
func TestWrongPartsThatNoValueNeeds(t *testing.T) {
	s, q := factsOfTwo(t), first(10)
	held, not := heldAndNot()
	for _, bad := range badParts() {
		for i := range held {
			for _, x := range []impl.Cond{
				bad,
				inner(9, held[i], bad),
				inner(9, bad, held[i]),
				inner(7, inner(8, not[i], bad)),
				inner(7, inner(8, bad, not[i])),
				inner(9, held[i], inner(8, always(), bad)),
				inner(9, held[i], inner(8, never(), bad)),
				inner(9, inner(8, bad, not[i]), held[i]),
				inner(7, inner(8, not[i], inner(7, bad))),
				inner(9, inner(9, held[i], bad), bad),
			} {
				if sizeByParts(x) > maxCond || !areNodesGood(x) {
					checkEval(t, nil, s, x, q, false)
				}
				checkEvalByParts(t, nil, s, x, q)
			}
		}
	}
}

// With a part that is just small enough the condition holds, and with one node or one level more it does not.
func TestPartsOfOneNodeTooMany(t *testing.T) {
	s, q := factsOfTwo(t), first(10)
	for n := range 20 {
		for _, leaf := range []impl.Cond{always(), cond(2, 4, 1), cond(6, 9, 0)} {
			checkEval(t, nil, s, inner(9, always(), negations(n, leaf)), q, n <= 12)
			checkEval(t, nil, s, inner(9, negations(n, leaf), always()), q, n <= 12)
			checkEval(t, nil, s, inner(7, inner(8, never(), negations(n, leaf))), q, n <= 10)
			checkEval(t, nil, s, inner(9, always(), leaning(n%2, n, leaf)), q, n <= 6)
			checkEval(t, nil, s, inner(9, always(), inner(8, negations(n, leaf), cond(5, 0, 0))), q, n <= 10)
		}
	}
}

// One node of a condition that holds, or whose negation does, becomes a wrong one at each place.
func TestOneWrongNodeOfAnyCondition(t *testing.T) {
	s, q := factsOfTwo(t), first(10)
	for _, x := range someConds() {
		for place := range sizeByParts(x) {
			for _, bad := range badNodes() {
				wrong := changedAt(x, place, func(node *impl.Cond) { *node = bad })
				if impl.EvalCond(nil, s, wrong, q) || impl.EvalCond(nil, s, inner(7, wrong), q) || impl.EvalCond(nil, s, inner(9, always(), wrong), q) {
					t.Errorf("%v holds", wrong)
				}
			}
			for _, change := range []func(*impl.Cond){
				func(node *impl.Cond) { node.Op = 0 },
				func(node *impl.Cond) { node.Op += 9 },
				func(node *impl.Cond) { node.Op = -node.Op },
				func(node *impl.Cond) { node.A = -1 },
				func(node *impl.Cond) { node.A = maxTime + 1 },
				func(node *impl.Cond) { node.B = -1 },
				func(node *impl.Cond) { node.B = maxTime + 1 },
				func(node *impl.Cond) { node.Args = append(node.Args, always()) },
				func(node *impl.Cond) { node.Args = append(node.Args, always(), always(), always()) },
			} {
				wrong := changedAt(x, place, change)
				for _, whole := range []impl.Cond{wrong, inner(7, wrong), inner(9, always(), wrong), inner(9, wrong, always())} {
					if isGoodCond(whole) != isGoodCond(wrong) && sizeByParts(whole) <= maxCond {
						t.Fatalf("%v is not like its part", whole)
					}
					checkEvalByParts(t, nil, s, whole, q)
				}
			}
		}
	}
}

func TestEvalCondOfConditionsThatAreNotValid(t *testing.T) {
	for _, x := range noConds() {
		for _, q := range []impl.Request{first(10), first(0), {}, request(19, 29, 39, maxAction, 49, maxTime)} {
			for _, s := range [][]impl.Fact{nil, factsOfTwo(t), noFacts()} {
				checkEval(t, nil, s, x, q, false)
				checkEval(t, chain(2, 1), s, inner(7, x), q, false)
			}
		}
	}
	for _, x := range []impl.Cond{negations(200000, always()), negations(200001, always()), leaning(0, 100000, always()), leaning(1, 100000, always()), cond(9, 0, 0, slices.Repeat([]impl.Cond{always()}, 200000)...), full(15, always())} {
		if impl.EvalCond(nil, nil, x, first(10)) || impl.EvalCond(nil, nil, impl.CondNot(x), first(10)) {
			t.Errorf("a condition with %d nodes holds", impl.SizeOf(x))
		}
	}
}

// The requests need not be valid: a leaf looks only at what it names.
func TestEvalCondOfRequestsThatAreNotValid(t *testing.T) {
	s := factsOfTwo(t)
	x := inner(9, inner(8, cond(2, 4, 20), cond(3, 0, 20)), cond(6, 0, 0))
	for _, c := range []struct {
		q    impl.Request
		want bool
	}{
		{request(10, 20, 30, 0, 40, 10), true},
		{request(10, 20, -1, 6, 7, 10), true},
		{request(10, 20, 30, -1, 40, 10), true},
		{request(9, 20, 30, 0, 40, 10), false},
		{request(10, 19, 30, 0, 40, 10), false},
		{request(20, 10, 30, 0, 40, 10), false},
		{request(9, 20, 30, 0, 40, 0), true},
		{request(9, 20, 30, 0, 40, -1), true},
		{request(9, 20, 30, 0, 40, math.MinInt), true},
		{request(10, 20, 30, 0, 40, -1), true},
		{request(10, 20, 30, 0, 40, maxTime+1), false},
		{request(10, 20, 30, 0, 40, math.MaxInt), false},
		{impl.Request{}, true},
	} {
		checkEval(t, nil, s, x, c.q, c.want)
		checkEval(t, nil, s, inner(7, x), c.q, !c.want)
	}
	for i, q := range noRequests() {
		for _, y := range goodConds()[i%3:] {
			if got := impl.EvalCond(chain(4, 1), s, y, q); got != evalByParts(chain(4, 1), s, y, q) {
				t.Errorf("EvalCond of %v for %+v = %v", y, q, got)
			}
		}
	}
}

func TestEvalCondOfEmptyLists(t *testing.T) {
	for _, l := range [][]impl.Includes{nil, {}} {
		for _, s := range [][]impl.Fact{nil, {}} {
			for _, x := range goodConds() {
				checkEvalByParts(t, l, s, x, first(10))
			}
			for _, leaf := range goodLeaves() {
				isHeld := leaf.Op == 1 || leaf.Op == 6 && leaf.A >= 10
				checkEval(t, l, s, leaf, first(10), isHeld)
				checkEval(t, l, s, inner(7, leaf), first(10), !isHeld)
			}
		}
	}
}

func TestEvalCondOnListsThatAreNoStore(t *testing.T) {
	l := chain(5, 0)
	for _, s := range append(noStores(), noFacts(), slices.Repeat(factsOfTwo(t), 40)) {
		for _, q := range []impl.Request{request(10, 20, 30, 0, 40, 10), request(10, 29, 39, 0, 40, 150), request(19, 20, 30, 0, 40, 201), request(19, 29, 30, 2, 44, 100)} {
			for _, leaf := range leavesOnFacts() {
				x := cond(leaf.op, leaf.a, 50)
				checkEvalByParts(t, l, s, x, q)
				checkEvalByParts(t, l, s, inner(8, inner(7, x), cond(6, 120, 0)), q)
				checkEvalByParts(t, l, s, inner(9, x, cond(2, 0, 100)), q)
			}
		}
	}
	// The same claim is stated twice, in either order; one of the two facts is enough.
	early, late := timed(stated(1, 10, 2), 5, 10), timed(stated(1, 10, 2), 9, 14)
	for _, s := range [][]impl.Fact{{early, late}, {late, early}, {late, {}, early}} {
		for now := 3; now <= 16; now++ {
			checkEval(t, nil, s, inner(7, cond(2, 2, 3)), first(now), !(now >= 5 && now <= 8 || now >= 9 && now <= 12))
		}
	}
}

func TestEvalCondByPairsThatReachThemselves(t *testing.T) {
	s := []impl.Fact{stated(1, 10, 3)}
	for _, c := range []struct {
		l     []impl.Includes
		roles []int
	}{
		{nil, []int{3}},
		{ring(3), []int{3}},
		{ring(3, 1), []int{1, 3}},
		{ring(1, 4, 3), []int{1, 3, 4}},
		{ring(1, 4), []int{3}},
		{slices.Concat(ring(1, 4), chain(3, 4)), []int{1, 3, 4}},
		{slices.Repeat(ring(3, 0), 20), []int{0, 3}},
	} {
		for role := range maxRole + 1 {
			isHeld := slices.Contains(c.roles, role)
			checkEval(t, c.l, s, cond(2, role, 20), first(10), isHeld)
			checkEval(t, c.l, s, inner(8, cond(2, 3, 20), inner(7, cond(2, role, 20))), first(10), !isHeld)
		}
	}
	for _, l := range append(somePairs(), noPairs()...) {
		for role := range maxRole + 1 {
			checkEvalByParts(t, l, s, inner(7, inner(8, cond(2, role, 20), cond(2, 5-role, 20))), first(10))
		}
	}
}

// drawnWholes draws as drawnLeaves does, and joins the leaves to whole conditions. For odd seeds, their numbers may be out of range.
func drawnWholes(seed uint32, count int) []judged {
	list := drawnLeaves(seed, count)
	var leaves []impl.Cond
	for _, c := range list {
		s, _ := shapeOf(c.x.Op)
		if seed%2 == 0 {
			c.x.A, c.x.B = min(c.x.A, s.mostA), max(0, min(c.x.B, s.mostB))
		}
		leaves = append(leaves, c.x)
	}
	for i := range list {
		x := leaves[i]
		for k := range i % 6 {
			other := leaves[(i*7+k*11+1)%count]
			switch (i/6 + k) % 4 {
			case 0:
				x = inner(7, x)
			case 1:
				x = inner(8, inner(7, other), x)
			case 2:
				x = inner(9, x, other)
			case 3:
				x = inner(8, other, x)
			}
		}
		list[i].x = x
	}
	return list
}

func TestDrawnEvaluations(t *testing.T) {
	held, not := 0, 0
	for seed := range uint32(40) {
		for _, c := range drawnWholes(seed, 400) {
			checkEvalByParts(t, c.l, c.s, c.x, c.q)
			if evalByParts(c.l, c.s, c.x, c.q) {
				held++
			} else if isGoodCond(c.x) {
				not++
			}
		}
	}
	if held < 1000 || not < 1000 {
		t.Errorf("%d hold, %d do not", held, not)
	}
}

// The values of the parts make up that of the whole, whatever the parts are.
func TestTheValuesOfThePartsMakeThatOfTheWhole(t *testing.T) {
	for seed := range uint32(10) {
		list := drawnWholes(2*seed, 120)
		for i, c := range list {
			x, y := c.x, list[(i*7+1)%len(list)].x
			holdsX, holdsY := impl.EvalCond(c.l, c.s, x, c.q), impl.EvalCond(c.l, c.s, y, c.q)
			for _, whole := range []struct {
				x    impl.Cond
				want bool
			}{
				{impl.CondNot(x), !holdsX},
				{impl.CondAnd(x, y), holdsX && holdsY},
				{impl.CondOr(x, y), holdsX || holdsY},
				{impl.CondNot(impl.CondAnd(x, y)), !holdsX || !holdsY},
				{impl.CondNot(impl.CondOr(x, y)), !holdsX && !holdsY},
				{impl.CondAnd(impl.CondNot(x), impl.CondNot(y)), !holdsX && !holdsY},
				{impl.CondOr(impl.CondNot(x), impl.CondNot(y)), !holdsX || !holdsY},
				{impl.CondOr(x, impl.CondNot(x)), true},
				{impl.CondAnd(x, impl.CondNot(x)), false},
			} {
				if got := impl.EvalCond(c.l, c.s, whole.x, c.q); got != (whole.want && impl.IsCond(whole.x)) {
					t.Errorf("EvalCond(%v, %v, %v, %+v) = %v", c.l, c.s, whole.x, c.q, got)
				}
			}
		}
	}
}

func TestUsedFacts(t *testing.T) {
	s := factsOfTwo(t)
	role, owns, health, build := cond(2, 1, 20), cond(3, 0, 20), cond(4, 2, 20), cond(5, 1, 20)
	q := first(10)
	for _, c := range []struct {
		x    impl.Cond
		q    impl.Request
		want []int
	}{
		{role, q, []int{0, 1}},
		{cond(2, 0, 20), q, []int{0, 1}},
		{cond(2, 5, 20), q, []int{0, 1}},
		{owns, q, []int{3}},
		{health, q, []int{6, 7}},
		{cond(4, 0, 20), q, []int{6, 7}},
		{cond(4, 3, 20), q, []int{6, 7}},
		{build, q, []int{9}},
		{cond(5, 3, 20), q, []int{9}},
		{always(), q, nil},
		{cond(6, 20, 0), q, nil},
		{cond(6, 0, 0), q, nil},
		{inner(7, role), q, []int{0, 1}},
		{inner(8, build, role), q, []int{0, 1, 9}},
		{inner(9, health, owns), q, []int{3, 6, 7}},
		{inner(8, inner(9, build, health), inner(7, inner(8, owns, role))), q, []int{0, 1, 3, 6, 7, 9}},
		{inner(9, always(), health), q, []int{6, 7}},
		{inner(8, never(), health), q, []int{6, 7}},
		{inner(8, cond(6, 0, 0), health), q, []int{6, 7}},
		{role, request(11, 20, 30, 0, 40, 10), []int{2}},
		{owns, request(11, 20, 30, 0, 40, 10), []int{5}},
		{owns, request(10, 21, 30, 0, 40, 10), []int{4}},
		{owns, request(11, 21, 30, 0, 40, 10), nil},
		{health, request(10, 21, 30, 0, 40, 10), []int{8}},
		{build, request(10, 20, 31, 0, 40, 10), []int{10}},
		{role, request(12, 20, 30, 0, 40, 10), nil},
		{cond(2, 1, 0), q, nil},
		{cond(2, 1, 1), q, []int{1}},
		{cond(2, 1, 4), q, []int{1}},
		{cond(2, 1, 5), q, []int{0, 1}},
		{cond(4, 1, 0), q, []int{6}},
		{cond(4, 1, 2), q, []int{6}},
		{cond(4, 1, 3), q, []int{6, 7}},
		{role, first(4), nil},
		{role, first(5), []int{0}},
		{role, first(8), []int{0}},
		{role, first(12), []int{0, 1}},
		{role, first(13), []int{1}},
		{role, first(29), []int{1}},
		{role, first(30), nil},
		{cond(2, 1, 21), first(30), []int{1}},
		{cond(2, 1, 100), first(31), nil},
		{build, first(9), nil},
		{build, first(11), nil},
	} {
		checkUsed(t, s, c.x, c.q, c.want...)
	}
}

// Each pair of times of a fact, at its first and last moments, with ages next to how old the fact is.
func TestUsedFactsAtEveryTime(t *testing.T) {
	for _, leaf := range leavesOnFacts() {
		for _, span := range [][2]int{{0, 0}, {0, 3}, {5, 5}, {5, 20}, {0, maxTime}, {maxTime - 3, maxTime}} {
			s := []impl.Fact{timed(leaf.fact, span[0], span[1])}
			for _, now := range timesAround(impl.Cert{From: span[0], Until: span[1]}) {
				for _, age := range append(agesAround(), now-span[0]-1, now-span[0], now-span[0]+1) {
					var want []int
					if span[0] <= now && now <= span[1] && now-span[0] <= age {
						want = []int{0}
					}
					checkUsed(t, s, cond(leaf.op, leaf.a, age), first(now), want...)
				}
			}
		}
	}
}

// Any value of the kind counts, whatever the leaf asks for.
func TestUsedFactsOfEveryKind(t *testing.T) {
	for _, leaf := range leavesOnFacts() {
		for _, other := range leavesOnFacts() {
			for a := -1; a <= 6; a++ {
				var want []int
				if leaf.op == other.op {
					want = []int{0}
				}
				checkUsed(t, []impl.Fact{other.fact}, cond(leaf.op, a, 20), first(10), want...)
			}
		}
	}
	for op := -3; op <= 20; op++ {
		var want []int
		if op >= 2 && op <= 5 {
			want = []int{op - 2}
		}
		checkUsed(t, storeOfFirst(t), cond(op, 0, 20), first(10), want...)
	}
}

// Each name is asked about by each other one of its kind.
func TestUsedFactsAboutOthers(t *testing.T) {
	for n := range 10 {
		s := []impl.Fact{stated(1, 10+n, 2), stated(2, 10+n, 29-n), stated(3, 20+n, 1), stated(4, 30+n, 3)}
		for m := range 10 {
			for d := range 10 {
				q := request(10+m, 20+d, 30+n, 0, 40, 10)
				checkUsedByParts(t, s, cond(2, 2, 20), q)
				checkUsedByParts(t, s, cond(3, 0, 20), q)
				checkUsedByParts(t, s, cond(4, 1, 20), q)
				checkUsed(t, s, cond(5, 1, 20), q, 3)
				q.Program = 30 + m
				checkUsedByParts(t, s, cond(5, 1, 20), q)
				checkUsedByParts(t, s, inner(8, cond(3, 0, 20), inner(9, cond(2, 1, 20), cond(5, 1, 20))), q)
			}
		}
	}
}

// A fact about the device is none about the program, nor about the person or the object, and the other way round.
func TestUsedFactsOfOtherNames(t *testing.T) {
	facts := []impl.Fact{stated(1, 10, 2), stated(2, 10, 20), stated(3, 20, 1), stated(4, 30, 3)}
	all := inner(8, inner(9, cond(2, 2, 20), cond(3, 0, 20)), inner(9, cond(4, 1, 20), cond(5, 1, 20)))
	for _, person := range []int{10, 20, 30, 40} {
		for _, device := range []int{10, 20, 30, 40} {
			for _, program := range []int{10, 20, 30, 40} {
				for _, object := range []int{10, 20, 30, 40} {
					q := request(person, device, program, 0, object, 10)
					var want []int
					if person == 10 {
						want = append(want, 0)
					}
					if person == 10 && device == 20 {
						want = append(want, 1)
					}
					if device == 20 {
						want = append(want, 2)
					}
					if program == 30 {
						want = append(want, 3)
					}
					checkUsed(t, facts, all, q, want...)
				}
			}
		}
	}
	// The health of a program and the build of a device are no facts.
	s := []impl.Fact{stated(3, 30, 1), stated(4, 20, 1), stated(2, 20, 10), stated(1, 20, 2), stated(3, 10, 2)}
	checkUsed(t, s, all, first(10))
	checkUsed(t, s, all, request(20, 30, 20, 0, 40, 10))
	checkUsed(t, s, all, request(20, 10, 20, 0, 40, 10))
	// Only the health is about the device, and only the build about the program.
	checkUsed(t, facts, cond(4, 1, 20), first(10), 2)
	checkUsed(t, facts, cond(5, 1, 20), first(10), 3)
	checkUsed(t, facts[2:3], cond(5, 1, 20), first(10))
	checkUsed(t, facts[3:], cond(4, 1, 20), first(10))
}

// A fact that several leaves name is told once.
func TestUsedFactsOfSeveralLeaves(t *testing.T) {
	s := factsOfTwo(t)
	q := first(10)
	role := cond(2, 1, 20)
	checkUsed(t, s, inner(8, role, role), q, 0, 1)
	checkUsed(t, s, full(3, role), q, 0, 1)
	checkUsed(t, s, inner(9, role, inner(7, role)), q, 0, 1)
	checkUsed(t, s, inner(8, role, cond(2, 4, 20)), q, 0, 1)
	checkUsed(t, s, inner(8, cond(4, 0, 20), cond(4, 3, 20)), q, 6, 7)
	checkUsed(t, s, inner(8, cond(4, 3, 20), cond(4, 3, 0)), q, 6, 7)
	// Of leaves with different ages, the one with the greatest counts, wherever it stands.
	for a := range 13 {
		for b := range 13 {
			var want []int
			if max(a, b) >= 5 {
				want = append(want, 0)
			}
			if max(a, b) >= 1 {
				want = append(want, 1)
			}
			checkUsed(t, s, inner(8, cond(2, 1, a), cond(2, 1, b)), q, want...)
			checkUsed(t, s, inner(9, cond(2, 1, a), inner(7, cond(2, 3, b))), q, want...)
			checkUsed(t, s, inner(9, cond(4, 1, a), cond(2, 1, b)), q, usedByParts(s, inner(9, cond(2, 1, b), cond(4, 1, a)), q)...)
		}
	}
	// The age of one leaf does not count for the facts of another.
	checkUsed(t, s, inner(8, cond(2, 1, 0), cond(4, 1, 20)), q, 6, 7)
	checkUsed(t, s, inner(8, cond(4, 1, 0), cond(2, 1, 20)), q, 0, 1, 6)
	checkUsed(t, s, inner(8, cond(5, 1, 0), cond(3, 0, 1)), q, 9)
}

func TestUsedFactsOfConditionsThatNameNone(t *testing.T) {
	for _, x := range []impl.Cond{always(), never(), cond(6, 0, 0), cond(6, maxTime, 0), inner(8, always(), cond(6, 10, 0)), full(3, cond(6, 10, 0)), negations(14, always())} {
		for _, s := range [][]impl.Fact{nil, {}, someFacts(), noFacts(), factsOfTwo(t), listedClaims()} {
			for _, now := range []int{-1, 0, 10, 150, maxTime} {
				checkUsed(t, s, x, first(now))
			}
		}
	}
	for _, x := range goodConds() {
		checkUsed(t, nil, x, first(10))
		checkUsed(t, []impl.Fact{}, x, first(10))
	}
}

// No chapter asks for a valid condition here: the leaves are those of LeavesOf, whatever stands around them and whatever their numbers are.
func TestUsedFactsOfConditionsThatAreNotValid(t *testing.T) {
	s := factsOfTwo(t)
	q := first(10)
	for _, c := range []struct {
		x    impl.Cond
		want []int
	}{
		{impl.Cond{}, nil},
		{cond(0, 1, 20), nil},
		{cond(2, -1, 20), []int{0, 1}},
		{cond(2, 6, 20), []int{0, 1}},
		{cond(2, math.MaxInt, 20), []int{0, 1}},
		{cond(2, 1, -1), nil},
		{cond(2, 1, math.MinInt), nil},
		{cond(2, 1, maxTime+1), []int{0, 1}},
		{cond(2, 1, math.MaxInt), []int{0, 1}},
		{cond(3, 1, 20), []int{3}},
		{cond(4, -1, 20), []int{6, 7}},
		{cond(4, 4, 20), []int{6, 7}},
		{cond(6, 1, 20), nil},
		{cond(2, 1, 20, always()), nil},
		{cond(2, 1, 20, cond(4, 1, 20)), []int{6, 7}},
		{cond(0, 0, 0, cond(4, 1, 20), cond(5, 1, 20), cond(2, 1, 1)), []int{1, 6, 7, 9}},
		{cond(7, 0, 0), nil},
		{cond(7, 0, 0, cond(2, 1, 20), cond(5, 1, 20)), []int{0, 1, 9}},
		{cond(8, 0, 0, cond(2, 1, 20)), []int{0, 1}},
		{cond(8, 5, 5, cond(2, 1, 20), impl.Cond{}), []int{0, 1}},
		{inner(9, cond(10, 0, 0), cond(5, 0, 20)), []int{9}},
		{negations(40, cond(5, 0, 20)), []int{9}},
		{leaning(1, 30, cond(3, 0, 20)), []int{3}},
		{full(5, cond(2, 1, 20)), []int{0, 1}},
	} {
		checkUsed(t, s, c.x, q, c.want...)
	}
	for _, x := range noConds() {
		checkUsedByParts(t, s, x, q)
		checkUsedByParts(t, s, inner(8, cond(5, 3, 20), x), q)
	}
	if got := impl.UsedFacts(nil, s, negations(200000, cond(5, 0, 20)), q); !slices.Equal(got, []int{9}) {
		t.Errorf("UsedFacts of many negations is %v", got)
	}
}

func TestUsedFactsOfRequestsThatAreNotValid(t *testing.T) {
	s := factsOfTwo(t)
	all := inner(8, inner(9, cond(2, 2, 20), cond(3, 0, 20)), inner(9, cond(4, 1, 20), cond(5, 1, 20)))
	checkUsed(t, s, all, request(10, 20, 30, 6, 40, 10), 0, 1, 3, 6, 7, 9)
	checkUsed(t, s, all, request(10, 20, 30, 0, 0, 10), 0, 1, 3, 6, 7, 9)
	checkUsed(t, s, all, request(9, 20, 30, 0, 40, 10), 6, 7, 9)
	checkUsed(t, s, all, request(10, 30, 30, 0, 40, 10), 0, 1, 9)
	checkUsed(t, s, all, request(10, 20, -1, 0, 40, 10), 0, 1, 3, 6, 7)
	checkUsed(t, s, all, request(10, 20, 30, 0, 40, -1))
	checkUsed(t, s, all, request(10, 20, 30, 0, 40, maxTime+1))
	checkUsed(t, s, all, impl.Request{})
	for _, q := range noRequests() {
		checkUsedByParts(t, s, all, q)
	}
	for _, p := range partsOfRequests() {
		for _, n := range p.numbers() {
			checkUsedByParts(t, s, all, p.in(first(10), n))
		}
	}
}

// What is no fact is not named, even if all its other parts suit.
func TestUsedFactsOnListsThatAreNoStore(t *testing.T) {
	all := inner(8, inner(9, cond(2, 2, 60), cond(3, 0, 60)), inner(9, cond(4, 1, 60), cond(5, 1, 60)))
	for _, s := range append(noStores(), noFacts(), slices.Repeat(factsOfTwo(t), 40)) {
		for _, q := range []impl.Request{request(10, 20, 30, 0, 40, 10), request(10, 20, 39, 0, 40, 150), request(19, 29, 30, 0, 40, 160), request(19, 20, 39, 0, 40, 161)} {
			checkUsedByParts(t, s, all, q)
		}
	}
	f := stated(1, 10, 2)
	checkUsed(t, []impl.Fact{f, f, f}, cond(2, 1, 20), first(10), 0, 1, 2)
	checkUsed(t, []impl.Fact{timed(f, 11, 20), f, timed(f, 20, 5), timed(f, 9, 10)}, cond(2, 1, 20), first(10), 1, 3)
	for _, bad := range noFacts() {
		for now := -1; now <= 21; now++ {
			for _, q := range []impl.Request{request(bad.Subject, bad.Value, bad.Subject, 0, 40, now), request(10, bad.Subject, bad.Subject, 0, 40, now)} {
				checkUsed(t, []impl.Fact{bad}, all, q)
				checkUsed(t, []impl.Fact{bad, bad}, cond(2, 1, math.MaxInt), q)
			}
		}
	}
	var want []int
	for i := range 1000 {
		want = append(want, i)
	}
	checkUsed(t, slices.Repeat([]impl.Fact{f}, 1000), cond(2, 1, 20), first(10), want...)
}

// However the facts and the leaves are arranged, the indices ascend.
func TestUsedFactsAscend(t *testing.T) {
	facts := []impl.Fact{stated(4, 30, 1), stated(1, 10, 2), stated(3, 21, 2), stated(2, 10, 20), stated(3, 20, 1)}
	leaves := []impl.Cond{cond(2, 1, 20), cond(3, 0, 20), cond(4, 1, 20), cond(5, 1, 20)}
	for _, s := range inOrders(facts) {
		for _, ordered := range inOrders(leaves) {
			for set := range 16 {
				x := inner(11, chosen(ordered, set)...)
				got := impl.UsedFacts(nil, s, x, first(10))
				if !slices.Equal(got, usedByParts(s, x, first(10))) || !slices.IsSorted(got) || len(slices.Compact(slices.Clone(got))) != len(got) {
					t.Errorf("UsedFacts(%v, %v) = %v", s, x, got)
				}
			}
		}
	}
}

func TestDrawnUsedFacts(t *testing.T) {
	used, unused := 0, 0
	for seed := range uint32(20) {
		for _, c := range drawnWholes(seed, 200) {
			checkUsedByParts(t, c.s, c.x, c.q)
			count := len(usedByParts(c.s, c.x, c.q))
			used += count
			unused += len(c.s) - count
		}
	}
	if used < 1000 || unused < 1000 {
		t.Errorf("%d are named, %d are not", used, unused)
	}
}

func TestOnlyFacts(t *testing.T) {
	a, b, c, d := stated(1, 10, 2), stated(2, 10, 20), stated(3, 20, 1), stated(4, 30, 3)
	s := []impl.Fact{a, b, c, d}
	checkOnly(t, s, nil)
	checkOnly(t, s, []int{})
	checkOnly(t, s, []int{0}, a)
	checkOnly(t, s, []int{3}, d)
	checkOnly(t, s, []int{0, 1, 2, 3}, a, b, c, d)
	checkOnly(t, s, []int{1, 3}, b, d)
	checkOnly(t, s, []int{3, 1}, b, d)
	checkOnly(t, s, []int{3, 2, 1, 0}, a, b, c, d)
	checkOnly(t, s, []int{2, 2}, c)
	checkOnly(t, s, []int{2, 0, 2, 0}, a, c)
	checkOnly(t, s, []int{-1})
	checkOnly(t, s, []int{4})
	checkOnly(t, s, []int{5})
	checkOnly(t, s, []int{-1, 4, 2, 400}, c)
	checkOnly(t, s, []int{math.MinInt, math.MaxInt})
	checkOnly(t, s, []int{math.MinInt, 1, math.MaxInt}, b)
	checkOnly(t, s, []int{-4, -3, 1 << 32, 1<<32 + 1, math.MinInt + 1})
	checkOnly(t, nil, nil)
	checkOnly(t, nil, []int{0})
	checkOnly(t, []impl.Fact{}, []int{0, -1, 1})
}

// Each choice of indices, in several orders and with others that name no fact.
func TestOnlyFactsOfEveryChoice(t *testing.T) {
	facts := listedClaims()[:7]
	for set := range 1 << len(facts) {
		want := chosen(facts, set)
		keep := chosen(countedFrom(0, len(facts)), set)
		checkOnly(t, facts, keep, want...)
		checkOnly(t, facts, slices.Concat([]int{-1, math.MaxInt}, keep, keep, []int{7, -7, math.MinInt}), want...)
		slices.Reverse(keep)
		checkOnly(t, facts, keep, want...)
		checkOnly(t, facts, append(noTimes(), keep...), want...)
		for i := range keep {
			checkOnly(t, facts, with(keep, 0, keep[i]), want...)
		}
	}
	for _, order := range orders([]int{4, 0, 6, 2}) {
		checkOnly(t, facts, order, facts[0], facts[2], facts[4], facts[6])
	}
}

func TestOnlyFactsOfListsThatAreNoStore(t *testing.T) {
	for _, s := range append(noStores(), noFacts()) {
		all := countedFrom(0, len(s))
		checkOnly(t, s, all, s...)
		checkOnly(t, s, nil)
		checkOnly(t, s, countedFrom(-3, len(s)+6), s...)
		for i := range s {
			checkOnly(t, s, []int{i}, s[i])
			checkOnly(t, s, without(all, i), without(s, i)...)
		}
	}
	many := slices.Repeat(listedClaims(), 40)
	checkOnly(t, many, countedFrom(0, len(many)), many...)
	checkOnly(t, many, []int{1000, 100, 10}, many[10], many[100], many[1000])
}

// What is left of a store is one.
func TestOnlyFactsOfAStore(t *testing.T) {
	s := impl.MergeStores(nil, listedClaims())
	for i := range s {
		for j := range s {
			left := impl.OnlyFacts(s, []int{j, i})
			if !impl.IsStore(left) || !slices.Contains(left, s[i]) || !slices.Contains(left, s[j]) {
				t.Errorf("OnlyFacts(%v, %v) = %v", s, []int{j, i}, left)
			}
		}
	}
}

// The promise: what a condition names is enough to tell its value.
func TestTheFactsThatAConditionNamesAreEnough(t *testing.T) {
	held, not, fewer := 0, 0, 0
	for seed := range uint32(60) {
		for _, c := range drawnWholes(seed, 200) {
			used := impl.UsedFacts(c.l, c.s, c.x, c.q)
			left := impl.OnlyFacts(c.s, used)
			holds := impl.EvalCond(c.l, c.s, c.x, c.q)
			if impl.EvalCond(c.l, left, c.x, c.q) != holds {
				t.Errorf("by %v, %v for %+v is %v by %v, but not by %v", c.l, c.x, c.q, holds, c.s, left)
			}
			if got := impl.UsedFacts(c.l, left, c.x, c.q); !slices.Equal(got, countedFrom(0, len(used))) {
				t.Errorf("of the facts that %v names for %+v, %v, it names %v", c.x, c.q, left, got)
			}
			if holds {
				held++
			} else {
				not++
			}
			if len(left) < len(c.s) {
				fewer++
			}
		}
	}
	if held < 1000 || not < 1000 || fewer < 1000 {
		t.Errorf("%d hold, %d do not, %d lost facts", held, not, fewer)
	}
}

// Facts that no leaf names change nothing, whichever of them are left out.
func TestFactsThatNoLeafNamesMayBeLeftOut(t *testing.T) {
	for seed := range uint32(20) {
		for _, c := range drawnWholes(2*seed, 100) {
			used := impl.UsedFacts(c.l, c.s, c.x, c.q)
			holds := impl.EvalCond(c.l, c.s, c.x, c.q)
			all := countedFrom(0, len(c.s))
			for i := range c.s {
				if slices.Contains(used, i) {
					continue
				}
				for _, keep := range [][]int{without(all, i), append(slices.Clone(used), i), append(used, all[i:]...)} {
					left := impl.OnlyFacts(c.s, keep)
					if impl.EvalCond(c.l, left, c.x, c.q) != holds {
						t.Errorf("by %v, %v for %+v is %v by %v, but not by %v", c.l, c.x, c.q, holds, c.s, left)
					}
				}
			}
		}
	}
}

// One more fact changes the value only if it is named, and some that are named do, for each kind.
func TestFurtherFactsThatNoLeafNamesChangeNothing(t *testing.T) {
	changed := map[int]int{}
	unnamed := 0
	for seed := range uint32(12) {
		for i, c := range drawnWholes(2*seed, 60) {
			holds := impl.EvalCond(c.l, c.s, c.x, c.q)
			for j, f := range append(furtherFacts(), noFacts()...) {
				place := (i + j) % (len(c.s) + 1)
				more := with(c.s, place, f)
				isNamed := slices.Contains(impl.UsedFacts(c.l, more, c.x, c.q), place)
				isChanged := impl.EvalCond(c.l, more, c.x, c.q) != holds
				if isChanged && !isNamed {
					t.Errorf("by %v, %v for %+v is %v by %v, but not with %+v", c.l, c.x, c.q, holds, c.s, f)
				}
				if isChanged {
					changed[f.Kind]++
				}
				if !isNamed {
					unnamed++
				}
			}
		}
	}
	for kind := 1; kind <= 4; kind++ {
		if changed[kind] < 20 {
			t.Errorf("facts of the kind %d changed %d values", kind, changed[kind])
		}
	}
	if len(changed) != 4 || unnamed < 1000 {
		t.Errorf("%v changed, %d not named", changed, unnamed)
	}
}

// Facts that touch nothing: of another kind, about another name, past, future or too old.
func TestFactsThatTouchNothing(t *testing.T) {
	q := first(10)
	for _, leaf := range leavesOnFacts() {
		x := cond(leaf.op, leaf.a, 4)
		near := timed(leaf.fact, 6, 10)
		far := []impl.Fact{timed(near, 5, 30), timed(near, 11, 30), timed(near, 6, 9), timed(near, 10, 9), timed(near, -1, 10), {}}
		for _, d := range []int{1, 9} {
			other := near
			other.Subject += d
			far = append(far, other)
		}
		for _, other := range leavesOnFacts() {
			if other.op != leaf.op {
				far = append(far, timed(other.fact, 6, 10))
			}
		}
		if leaf.op == 3 {
			other := near
			other.Value = 21
			far = append(far, other)
		}
		for _, f := range far {
			checkUsed(t, []impl.Fact{f}, x, q)
			checkEval(t, nil, []impl.Fact{f}, x, q, false)
			checkEval(t, nil, []impl.Fact{f, near}, x, q, true)
			checkUsed(t, []impl.Fact{f, near}, x, q, 1)
			checkUsed(t, []impl.Fact{near, f}, x, q, 0)
		}
		checkUsed(t, far, x, q)
		checkEval(t, nil, far, inner(7, x), q, true)
		for place := range len(far) + 1 {
			checkUsed(t, with(far, place, near), x, q, place)
			checkEval(t, nil, with(far, place, near), x, q, true)
			checkOnly(t, with(far, place, near), impl.UsedFacts(nil, with(far, place, near), x, q), near)
		}
	}
}

func TestNeverHolds(t *testing.T) {
	s := factsOfTwo(t)
	role := cond(2, 4, 1)
	is, not := first(10), first(11)
	for _, c := range []struct {
		list []impl.Request
		want bool
	}{
		{nil, true},
		{[]impl.Request{}, true},
		{[]impl.Request{is}, false},
		{[]impl.Request{not}, true},
		{[]impl.Request{is, not, not}, false},
		{[]impl.Request{not, is, not}, false},
		{[]impl.Request{not, not, is}, false},
		{[]impl.Request{not, not, not}, true},
		{[]impl.Request{is, is, is}, false},
		{[]impl.Request{request(11, 20, 30, 0, 40, 10), first(8), {}}, true},
		{[]impl.Request{request(11, 20, 30, 0, 40, 10), first(9), {}}, false},
	} {
		checkNever(t, role, c.list, nil, s, c.want)
		checkNever(t, inner(7, inner(7, role)), c.list, nil, s, c.want)
		checkNever(t, inner(7, role), c.list, nil, s, !slices.ContainsFunc(c.list, func(q impl.Request) bool { return !evalByParts(nil, s, role, q) }))
		checkNever(t, always(), c.list, nil, s, len(c.list) == 0)
		checkNever(t, never(), c.list, nil, s, true)
		checkNever(t, role, c.list, nil, nil, true)
		checkNever(t, cond(2, 2, 0), c.list, nil, s, true)
	}
	checkNever(t, cond(2, 3, 1), []impl.Request{not, is}, nil, s, true)
	checkNever(t, cond(2, 3, 1), []impl.Request{not, is}, chain(4, 3), s, false)
	checkNever(t, cond(2, 3, 1), []impl.Request{not, is}, ring(4, 3), s, false)
}

func TestNeverHoldsOfConditionsThatAreNotValid(t *testing.T) {
	list := append(someRequests(), noRequests()...)
	for _, x := range noConds() {
		checkNever(t, x, list, chain(2, 1), factsOfTwo(t), true)
		checkNever(t, inner(9, always(), x), list, nil, nil, true)
		checkNever(t, inner(7, x), nil, nil, nil, true)
	}
}

// The one request for which the condition holds stands at each place, among others of which each differs from it.
func TestNeverHoldsWithOneAtEachPlace(t *testing.T) {
	s := factsOfTwo(t)
	x := inner(8, inner(8, cond(2, 4, 1), cond(3, 0, 2)), inner(8, cond(4, 2, 3), cond(5, 1, 0)))
	others := []impl.Request{first(9), first(11), request(11, 20, 30, 0, 40, 10), request(10, 22, 30, 0, 40, 10), request(10, 20, 32, 0, 40, 10), {}, first(-10)}
	checkNever(t, x, others, nil, s, true)
	for place := range len(others) + 1 {
		checkNever(t, x, with(others, place, first(10)), nil, s, false)
		checkNever(t, x, with(others, place, request(10, 20, 30, 77, -40, 10)), nil, s, false)
		checkNever(t, x, with(others, place, first(12)), nil, s, true)
	}
	long := slices.Repeat(others, 500)
	checkNever(t, x, long, nil, s, true)
	checkNever(t, x, append(long, first(10)), nil, s, false)
	// What stands behind the list does not count.
	checkNever(t, x, append(long, first(10))[:len(long)], nil, s, true)
}

func TestDrawnNeverHolds(t *testing.T) {
	answers := map[bool]int{}
	for seed := range uint32(40) {
		list := drawnWholes(seed, 60)
		for i, c := range list {
			var asked []impl.Request
			for _, other := range list[i:min(i+i%4, len(list))] {
				asked = append(asked, other.q)
			}
			want := !slices.ContainsFunc(asked, func(q impl.Request) bool { return evalByParts(c.l, c.s, c.x, q) })
			checkNever(t, c.x, asked, c.l, c.s, want)
			answers[want]++
		}
	}
	if answers[true] < 300 || answers[false] < 300 {
		t.Errorf("the answers were %v", answers)
	}
}

func TestHoldsUntil(t *testing.T) {
	s := factsOfTwo(t)
	q := first(10)
	role := cond(2, 4, 20)
	for _, c := range []struct {
		x    impl.Cond
		q    impl.Request
		most int
		want int
	}{
		{role, q, 60, 29},
		{role, q, 20, 29},
		{role, q, 19, 29},
		{role, q, 18, 28},
		{role, q, 1, 11},
		{role, q, 0, 10},
		{role, q, -1, 10},
		{role, q, 61, 10},
		{cond(2, 4, 100), q, 60, 30},
		{cond(2, 4, 3), q, 60, 12},
		{cond(2, 4, 0), q, 60, 70},
		{cond(2, 4, 0), first(9), 60, 9},
		{cond(2, 4, 0), first(8), 60, 8},
		{cond(2, 4, 0), first(7), 60, 8},
		{cond(2, 4, 0), first(0), 60, 8},
		{cond(2, 4, 0), first(0), 8, 8},
		{cond(2, 4, 0), first(0), 7, 7},
		{inner(7, role), q, 60, 29},
		{inner(7, role), first(2), 60, 8},
		{always(), q, 60, 70},
		{never(), q, 60, 70},
		{always(), q, 61, 10},
		{always(), first(maxTime), 60, maxTime},
		{always(), first(maxTime - 1), 60, maxTime},
		{always(), first(maxTime - 60), 60, maxTime},
		{always(), first(maxTime - 61), 60, maxTime - 1},
		{always(), first(maxTime + 1), 60, maxTime + 1},
		{always(), first(-1), 60, -1},
		{always(), first(0), 60, 60},
		{cond(6, 15, 0), q, 60, 15},
		{cond(6, 15, 0), q, 5, 15},
		{cond(6, 15, 0), q, 4, 14},
		{cond(6, 15, 0), first(15), 60, 15},
		{cond(6, 15, 0), first(16), 60, 76},
		{inner(8, role, cond(6, 15, 0)), q, 60, 15},
		{inner(9, role, cond(6, 15, 0)), q, 60, 29},
		{inner(9, role, cond(6, 35, 0)), q, 60, 35},
		{inner(8, cond(2, 4, 20), inner(7, cond(6, 15, 0))), q, 60, 15},
		{impl.Cond{}, q, 60, 70},
		{inner(9, always(), cond(6, maxTime+1, 0)), q, 3, 13},
	} {
		checkUntil(t, nil, s, c.x, c.q, c.most, c.want)
	}
}

func mosts() []int {
	return []int{-1, 0, 1, 2, 30, 59, 60, 61, 62, -60, 120, maxTime, 1 << 32, 1<<32 + 5, math.MinInt, math.MinInt + 60, math.MaxInt, math.MaxInt - 1}
}

// startsAtTheEnds holds times next to the first and the last one, also those from which the last one is 60 away.
func startsAtTheEnds() []int {
	return append(timesAtTheEnds(), maxTime-62, maxTime-61, maxTime-60, maxTime-59, maxTime-30, 1<<32, maxTime+60, -60)
}

func TestHoldsUntilOfConditionsThatNeverTurn(t *testing.T) {
	s := factsOfTwo(t)
	for _, x := range []impl.Cond{always(), never(), cond(6, maxTime, 0), inner(7, cond(6, maxTime, 0)), cond(2, 5, 3), inner(8, cond(3, 0, 2), never()), inner(9, cond(3, 0, 2), always())} {
		for _, now := range startsAtTheEnds() {
			for _, most := range append(mosts(), countedFrom(-2, 66)...) {
				want := now
				if now >= 0 && now <= maxTime && most >= 0 && most <= 60 {
					want = min(now+most, maxTime)
				}
				checkUntil(t, nil, s, x, first(now), most, want)
			}
		}
	}
}

// A condition that is not valid is false at all times.
func TestHoldsUntilOfConditionsThatAreNotValid(t *testing.T) {
	s := factsOfTwo(t)
	for _, x := range noConds() {
		for _, now := range []int{-1, 0, 10, maxTime - 20, maxTime, maxTime + 1} {
			for _, most := range []int{-1, 0, 1, 60, 61} {
				want := now
				if now >= 0 && now <= maxTime && most >= 0 && most <= 60 {
					want = min(now+most, maxTime)
				}
				checkUntil(t, nil, s, x, first(now), most, want)
			}
		}
	}
}

// The condition turns at each time before, within and behind those that count, in both directions.
func TestHoldsUntilOfConditionsThatTurn(t *testing.T) {
	for _, now := range []int{0, 1, 10, 500, maxTime - 62, maxTime - 61, maxTime - 60, maxTime - 30, maxTime - 1, maxTime} {
		for _, most := range []int{0, 1, 2, 30, 59, 60} {
			end := min(now+most, maxTime)
			for last := max(now-3, 0); last <= min(now+64, maxTime); last++ {
				want := end
				if last >= now && last < end {
					want = last
				}
				checkUntil(t, nil, nil, cond(6, last, 0), first(now), most, want)
				checkUntil(t, nil, nil, inner(7, cond(6, last, 0)), first(now), most, want)
				s := []impl.Fact{timed(stated(1, 10, 2), max(now-5, 0), last)}
				if last >= now {
					checkUntil(t, nil, s, cond(2, 2, maxTime), first(now), most, want)
					checkUntil(t, nil, s, inner(7, cond(2, 2, maxTime)), first(now), most, want)
				}
				if last < maxTime {
					s = []impl.Fact{timed(stated(3, 20, 2), last+1, maxTime)}
					checkUntil(t, nil, s, cond(4, 2, maxTime), first(now), most, want)
					checkUntil(t, nil, s, inner(7, cond(4, 2, maxTime)), first(now), most, want)
				}
				if last >= now && now >= 10 {
					s = []impl.Fact{timed(stated(4, 30, 2), now-10, maxTime)}
					checkUntil(t, nil, s, cond(5, 1, last-now+10), first(now), most, want)
				}
			}
		}
	}
}

// The condition turns and turns back: only the first turn counts, also if the value is later what it was.
func TestHoldsUntilOfConditionsThatTurnBack(t *testing.T) {
	for _, now := range []int{0, 10, 500, maxTime - 40} {
		for _, most := range []int{1, 5, 30, 60} {
			end := min(now+most, maxTime)
			for a := max(now-2, 0); a <= min(now+33, maxTime); a += 3 {
				for b := a; b <= min(a+33, maxTime); b += 4 {
					x := inner(8, inner(7, cond(6, a, 0)), cond(6, b, 0))
					want := end
					if now <= a && a < b {
						want = min(a, end)
					} else if a < now && now <= b {
						want = min(b, end)
					}
					checkUntil(t, nil, nil, x, first(now), most, want)
					checkUntil(t, nil, nil, inner(7, x), first(now), most, want)
					if a < b {
						s := []impl.Fact{timed(stated(2, 10, 20), a+1, b)}
						checkUntil(t, nil, s, cond(3, 0, 100), first(now), most, want)
						checkUntil(t, nil, s, inner(7, cond(3, 0, 100)), first(now), most, want)
					}
				}
			}
		}
	}
	// One fact ends where the next one begins, or a time later.
	f := stated(1, 10, 2)
	checkUntil(t, nil, []impl.Fact{timed(f, 5, 12), timed(f, 13, 20), timed(f, 22, 40)}, cond(2, 2, 30), first(10), 60, 20)
	checkUntil(t, nil, []impl.Fact{timed(f, 5, 12), timed(f, 12, 20), timed(f, 21, 40)}, cond(2, 2, 30), first(10), 60, 40)
	checkUntil(t, nil, []impl.Fact{timed(f, 5, 12), timed(f, 14, 20)}, inner(7, cond(2, 2, 30)), first(10), 60, 12)
	checkUntil(t, nil, []impl.Fact{timed(f, 5, 12), timed(f, 14, 20)}, cond(2, 2, 30), first(13), 60, 13)
	checkUntil(t, nil, []impl.Fact{timed(f, 5, 12), timed(f, 14, 20)}, cond(2, 2, 30), first(14), 60, 20)
	// The role is had by one fact first, and then, by the pairs, by another one.
	checkUntil(t, chain(5, 2), []impl.Fact{timed(f, 5, 12), timed(stated(1, 10, 5), 11, 25)}, cond(2, 2, 30), first(10), 60, 25)
	checkUntil(t, nil, []impl.Fact{timed(f, 5, 12), timed(stated(1, 10, 5), 11, 25)}, cond(2, 2, 30), first(10), 60, 12)
}

func TestHoldsUntilOfRequestsThatAreNotValid(t *testing.T) {
	s := factsOfTwo(t)
	for _, x := range []impl.Cond{always(), cond(2, 4, 20), inner(7, cond(6, 12, 0)), {}} {
		for _, most := range mosts() {
			for _, q := range noRequests() {
				checkUntil(t, nil, s, x, q, most, q.Now)
			}
			for _, p := range partsOfRequests() {
				for _, n := range p.numbers() {
					q := p.in(first(10), n)
					checkUntilByParts(t, nil, s, x, q, most)
					if got := impl.HoldsUntil(nil, s, x, q, most); !p.isGood(n) && got != q.Now {
						t.Errorf("HoldsUntil for %+v with %d = %d", q, most, got)
					}
				}
			}
		}
	}
}

func TestHoldsUntilOnListsThatAreNoStore(t *testing.T) {
	for _, s := range append(noStores(), noFacts(), slices.Repeat(factsOfTwo(t), 40)) {
		for _, q := range []impl.Request{request(10, 20, 30, 0, 40, 0), request(10, 20, 30, 0, 40, 95), request(19, 29, 39, 0, 40, 150), request(19, 20, 39, 0, 40, 195)} {
			for _, leaf := range leavesOnFacts() {
				for _, age := range []int{0, 55, maxTime} {
					checkUntilByParts(t, ring(5, 0), s, cond(leaf.op, leaf.a, age), q, 60)
					checkUntilByParts(t, chain(5, 0), s, inner(7, inner(8, cond(leaf.op, leaf.a, age), cond(6, 105, 0))), q, 60)
				}
			}
		}
	}
}

// The value is the same up to what comes back, and another one at the next time, if that still counts.
func TestDrawnTimes(t *testing.T) {
	turned := map[bool]int{}
	for seed := range uint32(30) {
		for i, c := range drawnWholes(2*seed, 150) {
			c.q.Action %= 6
			most := []int{0, 1, 2, 5, 12, 30, 60}[i%7]
			checkUntilByParts(t, c.l, c.s, c.x, c.q, most)
			until := impl.HoldsUntil(c.l, c.s, c.x, c.q, most)
			holds := impl.EvalCond(c.l, c.s, c.x, c.q)
			for now := c.q.Now; now <= until; now++ {
				if impl.EvalCond(c.l, c.s, c.x, impl.AtTime(c.q, now)) != holds {
					t.Errorf("by %v and %v, %v for %+v turns before %d", c.l, c.s, c.x, c.q, until)
				}
			}
			if until > c.q.Now && until < c.q.Now+most {
				turned[holds]++
			}
		}
	}
	if turned[true] < 100 || turned[false] < 50 {
		t.Errorf("so many turned on the way: %v", turned)
	}
}

func TestEvaluationLeavesItsArguments(t *testing.T) {
	lists := append(noStores(), nil, []impl.Fact{}, someFacts(), noFacts(), factsOfTwo(t))
	pairs := append(somePairs(), noPairs()...)
	keeps := [][]int{nil, {}, {0}, {2, 0, 1}, {5, 5, -1, 30, math.MaxInt}, countedFrom(-2, 60)}
	for i, want := range append(anyConds(), drawnConds(60, true)...) {
		facts, wantedPairs, kept := lists[i%len(lists)], pairs[i%len(pairs)], keeps[i%len(keeps)]
		l, s, x, keep := sparedPairs(wantedPairs), sparedFacts(facts), sparedCond(want), sparedInts(kept)
		requests := append([]impl.Request{first(10), first(150)}, anyRequests()[i%40])
		asked := withSpare(requests, first(mark))
		for _, q := range requests {
			impl.EvalCond(l, s, x, q)
			impl.UsedFacts(l, s, x, q)
			impl.HoldsUntil(l, s, x, q, i)
		}
		impl.OnlyFacts(s, keep)
		impl.NeverHolds(x, asked, l, s)
		if !arePairsUntouched(l, wantedPairs) || !areFactsUntouched(s, facts) || !isCondUntouched(x, want) || !areUntouched(keep, kept) || !isWithSpare(asked, requests, first(mark)) {
			t.Errorf("%v, %v, %v, %v and %v became %v, %v, %v, %v and %v", wantedPairs, facts, want, kept, requests, l, s, x, keep, asked)
		}
		checkEvalByParts(t, l, s, x, first(10))
		checkUsedByParts(t, s, x, first(10))
		checkUntilByParts(t, l, s, x, first(10), 9)
		checkOnly(t, s, keep, impl.OnlyFacts(slices.Clone(facts), kept)...)
	}
}

// What comes back is spoiled; no argument may change, nor what came back before.
func TestWhatEvaluationReturnsSharesNoMemory(t *testing.T) {
	facts := factsOfTwo(t)
	for _, want := range append(someConds(), full(2, cond(2, 1, 20)), inner(8, cond(4, 0, 20), cond(5, 0, 20))) {
		s, x := sparedFacts(facts), sparedCond(want)
		before := impl.UsedFacts(nil, s, x, first(10))
		wanted := slices.Clone(before)
		spoilInts(impl.UsedFacts(nil, s, x, first(10)))
		if !slices.Equal(before, wanted) || !areFactsUntouched(s, facts) || !isCondUntouched(x, want) {
			t.Errorf("what UsedFacts of %v returns shares memory", want)
		}
		checkUsed(t, s, x, first(10), wanted...)
	}
	all := countedFrom(0, len(facts))
	for _, kept := range [][]int{nil, {}, {0}, {3, 4, 5}, all, all[:5], {10, 9}} {
		s, keep := sparedFacts(facts), sparedInts(kept)
		before := impl.OnlyFacts(s, keep)
		wanted := slices.Clone(before)
		spoilFacts(impl.OnlyFacts(s, keep))
		if !slices.Equal(before, wanted) || !areFactsUntouched(s, facts) || !areUntouched(keep, kept) {
			t.Errorf("what OnlyFacts of %v returns shares memory", kept)
		}
		checkOnly(t, s, keep, wanted...)
	}
}

// What stands in the spare capacity is neither a fact nor an index, nor a request.
func TestWhatStandsBehindTheListsIsNotLookedAt(t *testing.T) {
	facts := []impl.Fact{stated(1, 10, 5), stated(2, 10, 20), stated(3, 20, 2), stated(4, 30, 2)}
	x := inner(9, inner(9, cond(2, 5, 20), cond(3, 0, 20)), inner(9, cond(4, 2, 20), cond(5, 2, 20)))
	indices := countedFrom(0, 4)
	for count := range len(facts) + 1 {
		checkUsed(t, facts[:count], x, first(10), countedFrom(0, count)...)
		checkEval(t, nil, facts[:count], x, first(10), count > 0)
		checkOnly(t, facts, indices[:count], facts[:count]...)
		checkOnly(t, facts[:count], indices, facts[:count]...)
		checkUntil(t, nil, facts[:count], x, first(10), 60, []int{70, 20}[min(count, 1)])
	}
	checkEval(t, chain(5, 3)[:0], facts, cond(2, 3, 20), first(10), false)
	checkNever(t, always(), []impl.Request{first(10)}[:0], nil, nil, true)
}
