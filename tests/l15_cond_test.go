package tests

import (
	"math"
	"slices"
	"testing"

	"loop.example/g00594/impl"
)

const maxCond = 15

// shape is what nodes with an operation look like: their numbers go from 0 to mostA and to mostB, and they have this many arguments.
type shape struct {
	mostA, mostB, args int
}

func shapeOf(op int) (shape, bool) {
	shapes := map[int]shape{
		1: {},
		2: {mostA: maxRole, mostB: maxTime},
		3: {mostB: maxTime},
		4: {mostA: 3, mostB: maxTime},
		5: {mostA: 3, mostB: maxTime},
		6: {mostA: maxTime},
		7: {args: 1},
		8: {args: 2},
		9: {args: 2},
	}
	s, ok := shapes[op]
	return s, ok
}

func cond(op, a, b int, args ...impl.Cond) impl.Cond {
	return impl.Cond{Op: op, A: a, B: b, Args: args}
}

func always() impl.Cond {
	return cond(1, 0, 0)
}

// inner is a node with arguments; its parts are new to each other, also if they are given twice.
func inner(op int, args ...impl.Cond) impl.Cond {
	return cloneCond(cond(op, 0, 0, args...))
}

func cloneCond(x impl.Cond) impl.Cond {
	x.Args = slices.Clone(x.Args)
	for i, arg := range x.Args {
		x.Args[i] = cloneCond(arg)
	}
	return x
}

// nodesIn holds the nodes of x from left to right, each one before its arguments.
func nodesIn(x *impl.Cond) []*impl.Cond {
	nodes := []*impl.Cond{x}
	for i := range x.Args {
		nodes = append(nodes, nodesIn(&x.Args[i])...)
	}
	return nodes
}

// changedAt returns a copy of x in which one node is changed.
func changedAt(x impl.Cond, place int, change func(*impl.Cond)) impl.Cond {
	x = cloneCond(x)
	change(nodesIn(&x)[place])
	return x
}

// These four are a second account of conditions, from part to part.

func sizeByParts(x impl.Cond) int {
	size := 1
	for _, arg := range x.Args {
		size += sizeByParts(arg)
	}
	return size
}

func areNodesGood(x impl.Cond) bool {
	s, isGood := shapeOf(x.Op)
	isGood = isGood && 0 <= x.A && x.A <= s.mostA && 0 <= x.B && x.B <= s.mostB && len(x.Args) == s.args
	for _, arg := range x.Args {
		isGood = isGood && areNodesGood(arg)
	}
	return isGood
}

func sameConds(a, b impl.Cond) bool {
	return a.Op == b.Op && a.A == b.A && a.B == b.B && slices.EqualFunc(a.Args, b.Args, sameConds)
}

func leavesByParts(x impl.Cond) []impl.Cond {
	if len(x.Args) == 0 && 2 <= x.Op && x.Op <= 6 {
		return []impl.Cond{x}
	}
	var leaves []impl.Cond
	for _, arg := range x.Args {
		for _, leaf := range leavesByParts(arg) {
			if !slices.ContainsFunc(leaves, func(other impl.Cond) bool { return sameConds(leaf, other) }) {
				leaves = append(leaves, leaf)
			}
		}
	}
	return leaves
}

// goodLeaves holds leaves of each operation, with numbers at the ends of their ranges.
func goodLeaves() []impl.Cond {
	return []impl.Cond{
		always(), cond(1, 0, 0, []impl.Cond{}...),
		cond(2, 0, 0), cond(2, maxRole, maxTime), cond(2, 1, 20),
		cond(3, 0, 0), cond(3, 0, maxTime), cond(3, 0, 5),
		cond(4, 0, 0), cond(4, 3, maxTime), cond(4, 2, 5),
		cond(5, 0, 0), cond(5, 3, maxTime), cond(5, 2, 5),
		cond(6, 0, 0), cond(6, maxTime, 0), cond(6, 2, 0),
	}
}

// negations puts CdNot before x, n times. Each of them has its argument to itself.
func negations(n int, x impl.Cond) impl.Cond {
	for range n {
		x = impl.Cond{Op: 7, Args: []impl.Cond{x}}
	}
	return x
}

// leaning is a condition with n nodes of two arguments, one in the other, that lean to the left (0) or to the right (1).
func leaning(side, n int, leaf impl.Cond) impl.Cond {
	x := leaf
	for i := range n {
		args := []impl.Cond{leaf, leaf}
		args[side] = x
		x = impl.Cond{Op: 8 + i%2, Args: args}
	}
	return x
}

// full is a condition with all leaves at this depth below nodes of two arguments.
func full(depth int, leaf impl.Cond) impl.Cond {
	if depth == 0 {
		return leaf
	}
	return cond(8+depth%2, 0, 0, full(depth-1, leaf), full(depth-1, leaf))
}

func someConds() []impl.Cond {
	a, b, c := cond(2, 1, 20), cond(4, 2, 5), cond(6, 70, 0)
	list := append(goodLeaves(),
		inner(7, a),
		inner(7, always()),
		inner(8, a, b),
		inner(8, b, a),
		inner(9, a, a),
		inner(9, always(), always()),
		inner(9, inner(8, a, inner(7, b)), inner(8, b, a)),
		inner(8, inner(7, inner(9, a, b)), inner(7, c)),
		inner(7, inner(7, inner(8, c, inner(7, inner(9, always(), b))))),
		inner(8, cond(3, 0, 5), inner(9, cond(5, 1, 9), inner(8, c, b))),
		full(2, b),
		full(3, a),
		negations(1, full(2, c)),
		negations(maxCond-1, b),
		negations(2, inner(9, full(2, a), negations(3, b))),
		leaning(0, 3, a), leaning(1, 3, a),
		leaning(0, 7, b), leaning(1, 7, b),
		negations(8, leaning(1, 3, c)),
	)
	return list
}

// badNodes holds nodes that are wrong for one reason each.
func badNodes() []impl.Cond {
	a, b := cond(2, 1, 20), cond(4, 2, 5)
	list := []impl.Cond{
		{},
		cond(1, 1, 0), cond(1, 0, 1), cond(1, -1, 0), cond(1, 0, -1),
		cond(2, -1, 0), cond(2, maxRole+1, 0), cond(2, 0, -1), cond(2, 0, maxTime+1),
		cond(3, -1, 0), cond(3, 1, 0), cond(3, 0, -1), cond(3, 0, maxTime+1),
		cond(4, -1, 0), cond(4, 4, 0), cond(4, 0, -1), cond(4, 0, maxTime+1),
		cond(5, -1, 0), cond(5, 4, 0), cond(5, 0, -1), cond(5, 0, maxTime+1),
		cond(6, -1, 0), cond(6, maxTime+1, 0), cond(6, 0, 1), cond(6, 0, -1),
		cond(7, 1, 0, a), cond(7, 0, 1, a), cond(7, -1, 0, a), cond(7, 0, -1, a),
		cond(8, 1, 0, a, b), cond(8, 0, 1, a, b), cond(8, -1, 0, a, b), cond(8, 0, -1, a, b),
		cond(9, 1, 0, a, b), cond(9, 0, 1, a, b), cond(9, -1, 0, a, b), cond(9, 0, -1, a, b),
		cond(7, 0, 0), cond(7, 0, 0, []impl.Cond{}...), cond(7, 0, 0, a, b), cond(7, 0, 0, a, b, a),
		cond(8, 0, 0), cond(8, 0, 0, []impl.Cond{}...), cond(8, 0, 0, a), cond(8, 0, 0, a, b, a),
		cond(9, 0, 0), cond(9, 0, 0, []impl.Cond{}...), cond(9, 0, 0, a), cond(9, 0, 0, a, b, a),
	}
	for _, leaf := range goodLeaves() {
		leaf.Args = []impl.Cond{a}
		list = append(list, leaf)
		leaf.Args = []impl.Cond{always(), b}
		list = append(list, leaf)
	}
	for _, op := range noOperations() {
		list = append(list, cond(op, 0, 0), cond(op, 0, 0, a), cond(op, 0, 0, a, b), cond(op, 1, 5))
	}
	return list
}

func noOperations() []int {
	return []int{0, -1, -2, -9, 10, 11, 12, 16, 256, 257, 264, 1 << 32, 1<<32 + 1, 1<<32 + 8, math.MinInt, math.MinInt + 1, math.MinInt + 7, math.MaxInt, math.MaxInt - 1}
}

// noConds holds conditions that are too large, and those in which a node is wrong.
func noConds() []impl.Cond {
	a, b := cond(2, 1, 20), cond(4, 2, 5)
	list := append(badNodes(),
		negations(maxCond, a),
		negations(1, full(3, a)),
		negations(1, leaning(0, 7, a)),
		leaning(0, 8, a), leaning(1, 8, b),
		full(4, b),
		negations(100, a),
		leaning(0, 100, a), leaning(1, 100, b),
	)
	for _, bad := range badNodes() {
		list = append(list, inner(7, bad), inner(8, bad, a), inner(9, a, bad), inner(8, b, inner(7, inner(9, bad, a))), inner(9, inner(8, a, inner(7, bad)), b), inner(8, bad, bad))
	}
	return list
}

func anyConds() []impl.Cond {
	return append(someConds(), noConds()...)
}

// condsOfSize holds, for each size up to most, all conditions with these leaves and operations.
func condsOfSize(most int, leaves []impl.Cond, ops ...int) [][]impl.Cond {
	bySize := [][]impl.Cond{nil, leaves}
	for size := 2; size <= most; size++ {
		var list []impl.Cond
		for _, op := range ops {
			if op == 7 {
				for _, arg := range bySize[size-1] {
					list = append(list, inner(op, arg))
				}
				continue
			}
			for left := 1; left < size-1; left++ {
				for _, a := range bySize[left] {
					for _, b := range bySize[size-1-left] {
						list = append(list, inner(op, a, b))
					}
				}
			}
		}
		bySize = append(bySize, list)
	}
	return bySize
}

// arrangements holds all ways to arrange n nodes that differ in nothing but their arguments.
func arrangements(n, op int) []impl.Cond {
	if n == 1 {
		return []impl.Cond{cond(op, 0, 0)}
	}
	var list []impl.Cond
	// The first argument has some of the nodes; the others are those of what is left of the condition without it.
	for first := 1; first < n; first++ {
		for _, arg := range arrangements(first, op) {
			for _, rest := range arrangements(n-first, op) {
				list = append(list, inner(op, append([]impl.Cond{arg}, rest.Args...)...))
			}
		}
	}
	return list
}

// drawnCond draws a condition of nodes most of which are good, or of any nodes at all.
func drawnCond(draw func(int) int, depth int, isWild bool) impl.Cond {
	op := 1 + draw(9)
	if isWild {
		op = draw(12) - 1
	}
	if depth == 0 && op > 6 {
		op -= 5
	}
	s, _ := shapeOf(op)
	x := cond(op, draw(min(s.mostA, 3)+1), draw(min(s.mostB, 3)+1))
	count := s.args
	if isWild && draw(4) == 0 {
		x.A, x.B = draw(5)-1, draw(5)-1
		count = draw(4)
	}
	if depth == 0 {
		count = 0
	}
	for range count {
		x.Args = append(x.Args, drawnCond(draw, depth-1, isWild))
	}
	return x
}

func drawnConds(count int, isWild bool) []impl.Cond {
	seed := uint32(count)
	draw := func(n int) int {
		seed = seed*1664525 + 1013904223
		return int(seed>>16) % n
	}
	var list []impl.Cond
	for i := range count {
		list = append(list, drawnCond(draw, i%6, isWild))
	}
	return list
}

func checkSize(t *testing.T, x impl.Cond, want int) {
	t.Helper()
	if got := impl.SizeOf(x); got != want {
		t.Errorf("SizeOf(%v) = %d, want %d", x, got, want)
	}
}

func checkIsCond(t *testing.T, x impl.Cond, want bool) {
	t.Helper()
	if got := impl.IsCond(x); got != want {
		t.Errorf("IsCond(%v) = %v", x, got)
	}
}

func checkEqual(t *testing.T, a, b impl.Cond, want bool) {
	t.Helper()
	if impl.EqualConds(a, b) != want || impl.EqualConds(b, a) != want {
		t.Errorf("EqualConds of %v and %v is not %v", a, b, want)
	}
}

func checkLeaves(t *testing.T, x impl.Cond, want ...impl.Cond) {
	t.Helper()
	if got := impl.LeavesOf(x); !slices.EqualFunc(got, want, sameConds) {
		t.Errorf("LeavesOf(%v) = %v, want %v", x, got, want)
	}
}

func checkMade(t *testing.T, got impl.Cond, op int, args ...impl.Cond) {
	t.Helper()
	if !sameConds(got, cond(op, 0, 0, args...)) {
		t.Errorf("made of %v: %v", args, got)
	}
}

// checkByParts asks all that one condition can answer.
func checkByParts(t *testing.T, x impl.Cond) {
	t.Helper()
	checkSize(t, x, sizeByParts(x))
	checkIsCond(t, x, areNodesGood(x) && sizeByParts(x) <= maxCond)
	checkEqual(t, x, x, true)
	checkEqual(t, x, cloneCond(x), true)
	checkMade(t, impl.CondNot(x), 7, x)
	checkMade(t, impl.CondAnd(x, x), 8, x, x)
	checkMade(t, impl.CondOr(x, x), 9, x, x)
	checkLeaves(t, x, leavesByParts(x)...)
}

func TestNumbersOfConditions(t *testing.T) {
	ops := []int{impl.CdTrue, impl.CdRole, impl.CdOwns, impl.CdHealth, impl.CdBuild, impl.CdBefore, impl.CdNot, impl.CdAnd, impl.CdOr}
	if !slices.Equal(ops, countedTo(9)) || impl.MaxCond != maxCond {
		t.Error(ops, impl.MaxCond)
	}
}

func TestArityOf(t *testing.T) {
	want := map[int]int{1: 0, 2: 0, 3: 0, 4: 0, 5: 0, 6: 0, 7: 1, 8: 2, 9: 2}
	for _, op := range slices.Concat(countedFrom(-300, 900), noOperations(), atTheEnds()) {
		arity, isKnown := want[op]
		if !isKnown {
			arity = -1
		}
		if got := impl.ArityOf(op); got != arity {
			t.Errorf("ArityOf(%d) = %d, want %d", op, got, arity)
		}
	}
}

func TestSizeOf(t *testing.T) {
	a, b := cond(2, 1, 20), cond(4, 2, 5)
	checkSize(t, impl.Cond{}, 1)
	checkSize(t, a, 1)
	checkSize(t, inner(7, a), 2)
	checkSize(t, inner(8, a, b), 3)
	checkSize(t, inner(9, inner(8, a, inner(7, b)), inner(8, b, a)), 8)
	// Every node counts, whether or not it may have arguments, and however many.
	checkSize(t, cond(2, 1, 20, b), 2)
	checkSize(t, cond(1, 0, 0, a, a, a), 4)
	checkSize(t, cond(6, 3, 0, inner(8, a, b), b), 5)
	checkSize(t, cond(0, 0, 0, a, inner(7, a)), 4)
	checkSize(t, cond(-1, 0, 0, a), 2)
	checkSize(t, cond(10, 0, 0, a, b, a, b, inner(8, a, b)), 8)
	checkSize(t, cond(math.MaxInt, 7, 7, impl.Cond{}, impl.Cond{}), 3)
	checkSize(t, cond(7, 0, 0), 1)
	checkSize(t, cond(8, 0, 0, []impl.Cond{}...), 1)
	checkSize(t, cond(7, 0, 0, a, b, a), 4)
	checkSize(t, cond(8, 0, 0, slices.Repeat([]impl.Cond{a}, 1000)...), 1001)
}

func TestSizesOfEveryNumber(t *testing.T) {
	a := cond(2, 1, 20)
	for n := range 100 {
		for _, leaf := range []impl.Cond{a, always(), {}} {
			isGood := leaf.Op != 0
			checkSize(t, negations(n, leaf), n+1)
			checkIsCond(t, negations(n, leaf), isGood && n+1 <= maxCond)
			for side := range 2 {
				checkSize(t, leaning(side, n, leaf), 2*n+1)
				checkIsCond(t, leaning(side, n, leaf), isGood && 2*n+1 <= maxCond)
				checkSize(t, negations(3, leaning(side, n, leaf)), 2*n+4)
				checkIsCond(t, negations(3, leaning(side, n, leaf)), isGood && 2*n+4 <= maxCond)
				checkSize(t, leaning(side, 2, negations(n, leaf)), 3*n+5)
				checkIsCond(t, leaning(side, 2, negations(n, leaf)), isGood && 3*n+5 <= maxCond)
			}
		}
	}
	for depth := range 12 {
		checkSize(t, full(depth, a), 2<<depth-1)
		checkIsCond(t, full(depth, a), depth <= 3)
		checkIsCond(t, negations(1, full(depth, a)), depth <= 2)
	}
}

// The greatest conditions that are valid, and those with one node more at any place.
func TestOneNodeTooMany(t *testing.T) {
	a := cond(2, 1, 20)
	for _, x := range []impl.Cond{negations(14, a), full(3, a), leaning(0, 7, a), leaning(1, 7, a), negations(4, leaning(1, 5, a)), leaning(0, 1, negations(6, a)), inner(8, full(2, a), negations(6, a)), inner(9, negations(4, a), negations(2, full(2, a)))} {
		checkSize(t, x, maxCond)
		checkIsCond(t, x, true)
		for place := range maxCond {
			larger := changedAt(x, place, func(node *impl.Cond) { *node = inner(7, *node) })
			checkSize(t, larger, maxCond+1)
			checkIsCond(t, larger, false)
		}
	}
}

// Each operation, with numbers around the ends of all ranges and with as many arguments as any operation has, and more.
func TestEveryNode(t *testing.T) {
	numbers := []int{-1, 0, 1, 2, 3, 4, 5, 6, maxTime - 1, maxTime, maxTime + 1, math.MinInt, math.MaxInt, 1 << 32, -maxTime}
	for _, op := range append(countedFrom(-3, 16), noOperations()...) {
		s, isKnown := shapeOf(op)
		for _, a := range numbers {
			for _, b := range numbers {
				for count := range 5 {
					x := cond(op, a, b, slices.Repeat([]impl.Cond{always()}, count)...)
					want := isKnown && 0 <= a && a <= s.mostA && 0 <= b && b <= s.mostB && count == s.args
					checkIsCond(t, x, want)
					checkIsCond(t, inner(7, x), want)
					checkIsCond(t, inner(8, x, always()), want)
					checkIsCond(t, inner(9, always(), x), want)
					checkIsCond(t, inner(8, inner(9, always(), inner(7, x)), always()), want)
					checkSize(t, x, 1+count)
				}
			}
		}
	}
}

func TestEveryNumberInItsRange(t *testing.T) {
	for op := 1; op <= 9; op++ {
		s, _ := shapeOf(op)
		args := slices.Repeat([]impl.Cond{cond(6, 4, 0)}, s.args)
		for n := -20; n <= maxTime+20; n++ {
			checkIsCond(t, cond(op, n, 0, args...), 0 <= n && n <= s.mostA)
			checkIsCond(t, cond(op, 0, n, args...), 0 <= n && n <= s.mostB)
			checkIsCond(t, cond(op, s.mostA, n, args...), 0 <= n && n <= s.mostB)
			checkIsCond(t, cond(op, n, s.mostB, args...), 0 <= n && n <= s.mostA)
		}
	}
}

func TestIsCond(t *testing.T) {
	for _, x := range someConds() {
		checkIsCond(t, x, true)
	}
	for _, x := range noConds() {
		checkIsCond(t, x, false)
	}
}

// A wrong node stands at every place of conditions that remain small enough.
func TestOneWrongNode(t *testing.T) {
	for _, x := range someConds() {
		for place := range sizeByParts(x) {
			for _, bad := range badNodes() {
				checkIsCond(t, changedAt(x, place, func(node *impl.Cond) { *node = bad }), false)
				keepingArgs := changedAt(x, place, func(node *impl.Cond) { node.Op, node.A, node.B = bad.Op, bad.A, bad.B })
				checkByParts(t, keepingArgs)
			}
			for _, good := range goodLeaves() {
				checkIsCond(t, changedAt(x, place, func(node *impl.Cond) { *node = good }), true)
			}
			checkIsCond(t, changedAt(x, place, func(node *impl.Cond) { node.Args = append(node.Args, always()) }), false)
		}
	}
}

// Empty arguments are as good as none, and as bad.
func TestNoArguments(t *testing.T) {
	for op := -2; op <= 11; op++ {
		for _, empty := range [][]impl.Cond{nil, {}, make([]impl.Cond, 0, 9), someConds()[:0]} {
			x := impl.Cond{Op: op, Args: empty}
			checkIsCond(t, x, 1 <= op && op <= 6)
			checkIsCond(t, inner(7, x), 1 <= op && op <= 6)
			checkSize(t, x, 1)
			checkEqual(t, x, impl.Cond{Op: op}, true)
			checkEqual(t, inner(8, x, x), inner(8, impl.Cond{Op: op}, impl.Cond{Op: op}), true)
			checkByParts(t, x)
		}
	}
}

// A condition in whose arguments it stands itself has no end, so it has more nodes than are valid.
func TestIsCondOfWhatContainsItself(t *testing.T) {
	for op := 7; op <= 9; op++ {
		for place := range op/8 + 1 {
			args := slices.Repeat([]impl.Cond{always()}, op/8+1)
			args[place] = impl.Cond{Op: op, Args: args}
			checkIsCond(t, args[place], false)
			checkIsCond(t, impl.Cond{Op: 7, Args: args[place : place+1]}, false)
		}
	}
}

func TestEqualConds(t *testing.T) {
	a, b := cond(2, 1, 20), cond(4, 2, 5)
	for _, c := range []struct {
		x, y impl.Cond
		want bool
	}{
		{impl.Cond{}, impl.Cond{}, true},
		{a, a, true},
		{a, b, false},
		{a, cond(2, 1, 21), false},
		{a, cond(2, 2, 20), false},
		{a, cond(3, 1, 20), false},
		{cond(2, 5, 9), cond(2, 9, 5), false},
		{inner(8, a, b), inner(8, a, b), true},
		{inner(8, a, b), inner(8, b, a), false},
		{inner(8, a, b), inner(9, a, b), false},
		{inner(8, a, a), inner(8, a, a), true},
		{inner(8, a, a), inner(8, a), false},
		{inner(8, a, b), inner(8, a, b, b), false},
		{inner(7, a), a, false},
		{inner(7, inner(7, a)), a, false},
		{inner(7, a), inner(7), false},
		// What has no arguments differs from what has one with every number 0.
		{cond(2, 1, 20), cond(2, 1, 20, impl.Cond{}), false},
		{impl.Cond{}, cond(0, 0, 0, impl.Cond{}), false},
		{cond(0, 0, 0, impl.Cond{}), cond(0, 0, 0, impl.Cond{}, impl.Cond{}), false},
		// The same nodes from left to right, otherwise arranged.
		{inner(8, inner(7, a), b), inner(8, inner(7, a, b)), false},
		{inner(8, inner(8, a, b), a), inner(8, inner(8, a), b, a), false},
		{inner(8, a, inner(8, b, a)), inner(8, inner(8, a, b), a), false},
		{inner(8, inner(9, a, b), b), inner(8, inner(9, a, b, b)), false},
		{inner(8, cond(2, 1, 1, a), b), inner(8, cond(2, 1, 1), a, b), false},
		// What is not valid is compared likewise.
		{cond(99, -5, math.MinInt, a), cond(99, -5, math.MinInt, a), true},
		{cond(99, -5, math.MinInt, a), cond(99, -5, math.MaxInt, a), false},
		{cond(99, -5, 3, a), cond(98, -5, 3, a), false},
		{cond(2, 1, 20, a), cond(2, 1, 20, a), true},
		{cond(2, 1, 20, a), cond(2, 1, 20, b), false},
		{full(5, a), full(5, a), true},
		{full(5, a), full(5, b), false},
		{full(5, a), full(6, a), false},
	} {
		checkEqual(t, c.x, c.y, c.want)
		checkEqual(t, inner(7, c.x), inner(7, c.y), c.want)
		checkEqual(t, inner(8, c.x, a), inner(8, c.y, a), c.want)
		checkEqual(t, inner(9, b, c.x), inner(9, b, c.y), c.want)
		checkEqual(t, inner(11, a, b, inner(0, a, c.x), a), inner(11, a, b, inner(0, a, c.y), a), c.want)
	}
}

// One field of one node is changed, or its arguments are, at every place.
func TestEqualCondsWithOneNodeChanged(t *testing.T) {
	for _, x := range append(someConds(), full(4, cond(2, 1, 20)), cond(0, 3, 4, cond(2, 1, 20), cond(11, 5, 6, always()), impl.Cond{})) {
		for place := range sizeByParts(x) {
			for _, d := range []int{1, -1, 2, 256, 1 << 32, math.MinInt, math.MaxInt} {
				checkEqual(t, x, changedAt(x, place, func(node *impl.Cond) { node.Op += d }), false)
				checkEqual(t, x, changedAt(x, place, func(node *impl.Cond) { node.A += d }), false)
				checkEqual(t, x, changedAt(x, place, func(node *impl.Cond) { node.B += d }), false)
				checkEqual(t, x, changedAt(x, place, func(node *impl.Cond) { node.A += d; node.B -= d }), false)
			}
			checkEqual(t, x, changedAt(x, place, func(node *impl.Cond) { node.Args = append(node.Args, impl.Cond{}) }), false)
			checkEqual(t, x, changedAt(x, place, func(node *impl.Cond) { node.Args = with(node.Args, 0, always()) }), false)
			checkEqual(t, x, changedAt(x, place, func(node *impl.Cond) { *node = inner(7, *node) }), false)
			reversed := changedAt(x, place, func(node *impl.Cond) { slices.Reverse(node.Args) })
			checkEqual(t, x, reversed, sameConds(x, reversed))
			emptied := changedAt(x, place, func(node *impl.Cond) {
				if len(node.Args) == 0 {
					node.Args = []impl.Cond{}
				}
			})
			checkEqual(t, x, emptied, true)
			shorter := changedAt(x, place, func(node *impl.Cond) { node.Args = node.Args[:max(len(node.Args)-1, 0)] })
			checkEqual(t, x, shorter, sameConds(x, shorter))
			childless := changedAt(x, place, func(node *impl.Cond) { node.Args = nil })
			checkEqual(t, x, childless, sameConds(x, childless))
		}
	}
}

func TestEqualCondsOfAnyTwo(t *testing.T) {
	list := slices.Concat(someConds(), badNodes(), drawnConds(60, true), slices.Concat(condsOfSize(4, []impl.Cond{cond(2, 1, 20), always()}, 7, 8)...))
	for i, x := range list {
		for _, y := range list[i:] {
			checkEqual(t, x, y, sameConds(x, y))
		}
	}
}

// Nodes that are alike are arranged in every way, so that only the numbers of their arguments tell the conditions apart.
func TestEqualCondsOfAllArrangements(t *testing.T) {
	for _, op := range []int{0, 2, 8} {
		list := slices.Concat(arrangements(3, op), arrangements(5, op), arrangements(6, op))
		for i, x := range list {
			checkByParts(t, x)
			for j, y := range list {
				checkEqual(t, x, y, i == j)
			}
		}
	}
}

func TestCondNotCondAndCondOr(t *testing.T) {
	list := append(someConds(), noConds()[:60]...)
	for i, x := range list {
		checkMade(t, impl.CondNot(x), 7, x)
		for j := i % 5; j < len(list); j += 5 {
			y := list[j]
			checkMade(t, impl.CondAnd(x, y), 8, x, y)
			checkMade(t, impl.CondOr(x, y), 9, x, y)
		}
	}
}

// The promise: a condition is as large as its parts and one node more, and valid as long as they are valid and this is not too large.
func TestConditionsAreAsLargeAsTheirParts(t *testing.T) {
	list := slices.Concat(someConds(), badNodes(), drawnConds(40, false), drawnConds(40, true), []impl.Cond{full(6, always()), leaning(0, 40, always())})
	for _, x := range list {
		size := impl.SizeOf(x)
		checkSize(t, impl.CondNot(x), 1+size)
		checkIsCond(t, impl.CondNot(x), impl.IsCond(x) && 1+size <= maxCond)
		for _, y := range list {
			together := 1 + size + impl.SizeOf(y)
			isGood := impl.IsCond(x) && impl.IsCond(y) && together <= maxCond
			for _, made := range []impl.Cond{impl.CondAnd(x, y), impl.CondOr(x, y)} {
				checkSize(t, made, together)
				checkIsCond(t, made, isGood)
				checkLeaves(t, made, leavesByParts(inner(8, x, y))...)
			}
		}
	}
}

func TestTwoPartsOfAnySize(t *testing.T) {
	a := cond(2, 1, 20)
	for left := range 20 {
		for right := range 20 {
			x, y := negations(left, a), negations(right, a)
			checkIsCond(t, impl.CondAnd(x, y), left+right+3 <= maxCond)
			checkIsCond(t, impl.CondOr(x, y), left+right+3 <= maxCond)
			checkSize(t, impl.CondAnd(x, y), left+right+3)
			checkMade(t, impl.CondOr(x, y), 9, x, y)
		}
	}
}

func TestEveryConditionWithFewNodes(t *testing.T) {
	leaves := []impl.Cond{cond(2, 1, 20), cond(6, 1, 0), always()}
	for size, list := range condsOfSize(6, leaves, 7, 8, 9) {
		for _, x := range list {
			checkSize(t, x, size)
			checkIsCond(t, x, true)
			checkLeaves(t, x, leavesByParts(x)...)
		}
	}
}

func TestDrawnConditions(t *testing.T) {
	for _, x := range append(drawnConds(600, false), drawnConds(600, true)...) {
		checkByParts(t, x)
	}
}

func TestLeavesOf(t *testing.T) {
	a, b, c := cond(2, 1, 20), cond(4, 2, 5), cond(6, 70, 0)
	checkLeaves(t, inner(9, inner(8, a, inner(7, b)), inner(8, b, a)), a, b)
	checkLeaves(t, inner(9, inner(8, c, inner(7, b)), inner(8, a, c)), c, b, a)
	checkLeaves(t, inner(8, inner(9, c, inner(7, inner(9, b, c))), a), c, b, a)
	checkLeaves(t, inner(8, always(), inner(7, b)), b)
	checkLeaves(t, always())
	checkLeaves(t, inner(7, always()))
	checkLeaves(t, full(3, always()))
	checkLeaves(t, full(3, c), c)
	checkLeaves(t, inner(8, a, a), a)
	checkLeaves(t, impl.Cond{})
	for op := -2; op <= 12; op++ {
		x := cond(op, 1, 2)
		if 2 <= op && op <= 6 {
			checkLeaves(t, x, x)
			checkLeaves(t, inner(8, a, inner(7, x)), a, x)
		} else {
			checkLeaves(t, x)
			checkLeaves(t, inner(8, a, inner(7, x)), a)
		}
	}
}

// Leaves differ if one field does; they need not be valid.
func TestLeavesThatDiffer(t *testing.T) {
	a := cond(2, 1, 20)
	for _, other := range []impl.Cond{cond(2, 2, 20), cond(2, 1, 21), cond(3, 1, 20), cond(2, 20, 1), cond(2, -1, 20), cond(2, 1, -20), cond(6, 1, 20), cond(2, math.MaxInt, 20), cond(2, 1, math.MinInt), cond(2, 1+1<<32, 20)} {
		checkLeaves(t, inner(8, a, other), a, other)
		checkLeaves(t, inner(9, other, a), other, a)
		checkLeaves(t, inner(8, inner(9, other, a), inner(9, a, other)), other, a)
		checkLeaves(t, inner(8, inner(9, a, a), inner(9, a, other)), a, other)
	}
	var all []impl.Cond
	for op := 2; op <= 6; op++ {
		for n := -2; n <= 2; n++ {
			for m := -2; m <= 2; m++ {
				all = append(all, cond(op, n, m))
			}
		}
	}
	checkLeaves(t, inner(11, all...), all...)
	checkLeaves(t, inner(11, inner(8, all...), inner(8, all...)), all...)
	slices.Reverse(all)
	checkLeaves(t, inner(11, all...), all...)
}

// A node with arguments is no leaf, whatever its operation, but its arguments are looked at.
func TestLeavesBelowAnyNode(t *testing.T) {
	a, b, c := cond(2, 1, 20), cond(4, 2, 5), cond(6, 70, 0)
	for _, op := range append(countedFrom(-2, 15), noOperations()...) {
		for _, n := range []int{0, 1, -1, 20} {
			checkLeaves(t, cond(op, 1, n, b), b)
			checkLeaves(t, cond(op, 1, n, b, c, b, a), b, c, a)
			checkLeaves(t, cond(op, 1, n, cond(op, 1, n, cond(op, 1, n, c))), c)
			checkLeaves(t, cond(op, 1, n, always(), impl.Cond{}))
			checkLeaves(t, inner(8, a, cond(op, 1, n, b, always())), a, b)
			checkLeaves(t, inner(8, cond(op, 1, n, b, a), a), b, a)
		}
	}
	// The same node with and without arguments: the latter alone is a leaf.
	checkLeaves(t, inner(8, cond(2, 1, 20, b), a), b, a)
	checkLeaves(t, inner(8, a, cond(2, 1, 20, b)), a, b)
	checkLeaves(t, cond(2, 1, 20, a), a)
	checkLeaves(t, cond(2, 1, 20, cond(2, 1, 20, always())))
	checkLeaves(t, cond(2, 1, 20, impl.Cond{}))
	checkLeaves(t, inner(8, impl.Cond{Op: 2, A: 1, B: 20, Args: []impl.Cond{}}, a), a)
}

// Each leaf that is told is one, stands in the condition, and is told once.
func TestLeavesOfAnyCondition(t *testing.T) {
	for _, x := range append(anyConds(), drawnConds(200, true)...) {
		checkLeaves(t, x, leavesByParts(x)...)
		for i, leaf := range impl.LeavesOf(x) {
			if len(leaf.Args) != 0 {
				t.Errorf("LeavesOf(%v) has arguments at %d", x, i)
			}
			checkLeaves(t, leaf, leaf)
		}
		checkLeaves(t, impl.CondNot(x), impl.LeavesOf(x)...)
		checkLeaves(t, impl.CondAnd(x, x), impl.LeavesOf(x)...)
	}
}

// Conditions of very many nodes, which are compared with what is known of them.
func TestVeryLargeConditions(t *testing.T) {
	const n = 200000
	a, b := cond(2, 1, 20), cond(4, 2, 5)
	for name, grown := range map[string]func(leaf impl.Cond) impl.Cond{
		"negations": func(leaf impl.Cond) impl.Cond { return negations(n, leaf) },
		"left":      func(leaf impl.Cond) impl.Cond { return leaning(0, n/2, leaf) },
		"right":     func(leaf impl.Cond) impl.Cond { return leaning(1, n/2, leaf) },
		"wide":      func(leaf impl.Cond) impl.Cond { return cond(10, 0, 0, slices.Repeat([]impl.Cond{leaf}, n)...) },
		"leaf":      func(leaf impl.Cond) impl.Cond { return cond(2, 1, 20, slices.Repeat([]impl.Cond{leaf}, n)...) },
	} {
		x := grown(a)
		if got := impl.SizeOf(x); got != n+1 {
			t.Errorf("%s: SizeOf is %d", name, got)
		}
		if impl.IsCond(x) {
			t.Errorf("%s: it is valid", name)
		}
		if !impl.EqualConds(x, grown(a)) || impl.EqualConds(x, grown(b)) || impl.EqualConds(x, a) || impl.EqualConds(a, x) {
			t.Errorf("%s: EqualConds is wrong", name)
		}
		if made := impl.CondNot(x); made.Op != 7 || len(made.Args) != 1 || impl.SizeOf(made) != n+2 || !impl.EqualConds(made.Args[0], x) {
			t.Errorf("%s: CondNot is wrong", name)
		}
		if leaves := impl.LeavesOf(x); len(leaves) != 1 || !sameConds(leaves[0], a) {
			t.Errorf("%s: LeavesOf is %v", name, leaves)
		}
	}
}

// Two nodes of a condition that are one in memory are two nodes all the same.
func TestConditionsWhosePartsShareMemory(t *testing.T) {
	x := cond(2, 1, 20)
	for depth := range 12 {
		checkByParts(t, x)
		checkEqual(t, x, full(depth, cond(2, 1, 20)), depth == 0)
		x = cond(8, 0, 0, x, x)
	}
	whole := []impl.Cond{cond(2, 1, 20), cond(4, 2, 5), cond(6, 70, 0)}
	y := cond(8, 0, 0, cond(9, 0, 0, whole[:2]...), cond(9, 0, 0, whole[1:]...))
	checkByParts(t, y)
	checkIsCond(t, y, true)
	checkLeaves(t, y, whole...)
}

// markedCond stands in spare capacity, where no function looks.
func markedCond() impl.Cond {
	return cond(4, mark, mark)
}

// sparedCond returns a copy of x with marked spare capacity behind the arguments of each node.
func sparedCond(x impl.Cond) impl.Cond {
	x.Args = withSpare(x.Args, markedCond())
	for i, arg := range x.Args {
		x.Args[i] = sparedCond(arg)
	}
	return x
}

func isCondUntouched(x impl.Cond, want impl.Cond) bool {
	spare := x.Args[len(x.Args) : len(x.Args)+16]
	return x.Op == want.Op && x.A == want.A && x.B == want.B &&
		slices.EqualFunc(spare, slices.Repeat([]impl.Cond{markedCond()}, 16), sameConds) &&
		slices.EqualFunc(x.Args, want.Args, isCondUntouched)
}

func TestConditionsAreLeftUntouched(t *testing.T) {
	all := append(anyConds(), drawnConds(60, true)...)
	for i, want := range all {
		other := all[(i*7+3)%len(all)]
		x, y := sparedCond(want), sparedCond(other)
		impl.SizeOf(x)
		impl.IsCond(x)
		impl.EqualConds(x, y)
		impl.EqualConds(x, x)
		impl.LeavesOf(x)
		impl.CondNot(x)
		impl.CondAnd(x, y)
		impl.CondOr(y, x)
		impl.CondAnd(x, x)
		impl.CondOr(x, x)
		if !isCondUntouched(x, want) || !isCondUntouched(y, other) {
			t.Errorf("%v and %v became %v and %v", want, other, x, y)
		}
	}
}

// What stands in the spare capacity is no part of a condition.
func TestArgumentsBehindTheList(t *testing.T) {
	for _, want := range append(anyConds(), drawnConds(60, true)...) {
		x := sparedCond(want)
		checkByParts(t, x)
		checkEqual(t, x, want, true)
		checkSize(t, x, sizeByParts(want))
		checkLeaves(t, x, leavesByParts(want)...)
		checkMade(t, impl.CondAnd(x, want), 8, want, x)
	}
}

// memory notes each place of a slice, its spare capacity included.
type memory map[*impl.Cond]bool

// enter reports whether none of the places that the list reaches, at any depth, was noted before.
func (m memory) enter(list []impl.Cond) bool {
	isNew := true
	whole := list[:cap(list)]
	for i := range whole {
		isNew = isNew && !m[&whole[i]]
		m[&whole[i]] = true
	}
	for _, x := range whole {
		isNew = m.enter(x.Args) && isNew
	}
	return isNew
}

func TestConditionsShareNoMemory(t *testing.T) {
	for _, want := range append(anyConds(), drawnConds(60, true)...) {
		x, y := sparedCond(want), sparedCond(inner(8, want, cond(2, 1, 20)))
		m := memory{}
		m.enter([]impl.Cond{x, y})
		for range 2 {
			for name, list := range map[string][]impl.Cond{
				"CondNot":          {impl.CondNot(x)},
				"CondAnd":          {impl.CondAnd(x, y)},
				"CondOr":           {impl.CondOr(x, y)},
				"CondAnd of one":   {impl.CondAnd(x, x)},
				"CondOr of one":    {impl.CondOr(y, y)},
				"LeavesOf":         impl.LeavesOf(x),
				"LeavesOf of both": impl.LeavesOf(impl.Cond{Op: 9, Args: []impl.Cond{x, y}}),
			} {
				if !m.enter(list) {
					t.Errorf("what %s of %v returns shares memory", name, want)
				}
			}
		}
	}
}

// The parts of the argument share memory, but those of a result do not.
func TestConditionsOfPartsThatShareMemory(t *testing.T) {
	args := withSpare([]impl.Cond{cond(2, 1, 20), inner(7, cond(4, 2, 5))}, markedCond())
	x := cond(8, 0, 0, cond(9, 0, 0, args...), cond(7, 0, 0, args[:1]...))
	want := cloneCond(x)
	m := memory{}
	m.enter([]impl.Cond{x})
	for _, part := range []impl.Cond{x, x.Args[0], x.Args[1], args[1]} {
		for _, made := range []impl.Cond{impl.CondAnd(x, part), impl.CondOr(part, x), impl.CondAnd(part, part), impl.CondNot(part)} {
			if !m.enter([]impl.Cond{made}) {
				t.Errorf("%v shares memory", made)
			}
		}
	}
	if !m.enter(impl.LeavesOf(x)) || !sameConds(x, want) {
		t.Errorf("%v became %v", want, x)
	}
}

// Each node of a result is spoiled in turn: no argument may change, nor another result, nor another node of this one.
func TestSpoiledConditions(t *testing.T) {
	for _, want := range append(someConds(), badNodes()[:40]...) {
		x := sparedCond(want)
		before := impl.CondOr(x, x)
		for place := range sizeByParts(before) {
			got := impl.CondOr(x, x)
			node := nodesIn(&got)[place]
			node.Op, node.A, node.B = 1000, 1000, 1000
			spoiled := changedAt(inner(9, want, want), place, func(node *impl.Cond) { node.Op, node.A, node.B = 1000, 1000, 1000 })
			if !sameConds(got, spoiled) || !isCondUntouched(x, want) || !sameConds(before, inner(9, want, want)) {
				t.Errorf("CondOr of %v shares memory", want)
			}
		}
		leaves := impl.LeavesOf(x)
		for i := range leaves {
			leaves[i].Op += 1000
			leaves[i].Args = append(leaves[i].Args, always())
		}
		if !isCondUntouched(x, want) {
			t.Errorf("LeavesOf of %v shares memory", want)
		}
		checkLeaves(t, x, leavesByParts(want)...)
	}
}
