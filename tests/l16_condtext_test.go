package tests

import (
	"fmt"
	"math"
	"regexp"
	"slices"
	"strconv"
	"strings"
	"testing"

	"loop.example/g00594/impl"
)

const maxText = 400

// opWords holds the words of the operations, from 1 on.
func opWords() []string {
	return strings.Fields("true role owns health build before not and or")
}

// textByParts is a second account of the text of a valid condition.
func textByParts(x impl.Cond) string {
	switch x.Op {
	case 2:
		return fmt.Sprintf("role %d %d", x.A, x.B)
	case 3:
		return fmt.Sprintf("owns %d", x.B)
	case 4:
		return fmt.Sprintf("health %d %d", x.A, x.B)
	case 5:
		return fmt.Sprintf("build %d %d", x.A, x.B)
	case 6:
		return fmt.Sprintf("before %d", x.A)
	case 7:
		return fmt.Sprintf("not %s", textByParts(x.Args[0]))
	case 8:
		return fmt.Sprintf("(%s and %s)", textByParts(x.Args[0]), textByParts(x.Args[1]))
	case 9:
		return fmt.Sprintf("(%s or %s)", textByParts(x.Args[0]), textByParts(x.Args[1]))
	}
	return "true"
}

func isGoodCond(x impl.Cond) bool {
	return areNodesGood(x) && sizeByParts(x) <= maxCond
}

func wantedText(x impl.Cond) string {
	if !isGoodCond(x) {
		return ""
	}
	return textByParts(x)
}

// numberRead is a number with which a text may begin, and what is left of the text behind it.
type numberRead struct {
	n    int
	rest string
}

// numbersRead holds all numbers that may stand, behind a blank, at the beginning of s; a field that is always 0 has no text.
func numbersRead(s string, most int) []numberRead {
	if most == 0 {
		return []numberRead{{0, s}}
	}
	if s == "" || s[0] != ' ' {
		return nil
	}
	var list []numberRead
	n := 0
	for i := 1; i < len(s) && '0' <= s[i] && s[i] <= '9'; i++ {
		n = n*10 + int(s[i]-'0')
		if n > most {
			break
		}
		list = append(list, numberRead{n, s[i+1:]})
		if n == 0 {
			break
		}
	}
	return list
}

// condRead is a condition with which a text may begin, and what is left of the text behind it.
type condRead struct {
	x    impl.Cond
	rest string
}

// condsRead is a second account of what can be read: it follows all ways at once, and gives none of them up.
func condsRead(s string) []condRead {
	var list []condRead
	for i, word := range opWords()[:6] {
		rest, isWord := strings.CutPrefix(s, word)
		if !isWord {
			continue
		}
		form, _ := shapeOf(i + 1)
		for _, a := range numbersRead(rest, form.mostA) {
			for _, b := range numbersRead(a.rest, form.mostB) {
				list = append(list, condRead{cond(i+1, a.n, b.n), b.rest})
			}
		}
	}
	if rest, isWord := strings.CutPrefix(s, "not "); isWord {
		for _, arg := range condsRead(rest) {
			list = append(list, condRead{inner(7, arg.x), arg.rest})
		}
	}
	if rest, isOpen := strings.CutPrefix(s, "("); isOpen {
		for _, left := range condsRead(rest) {
			list = append(list, pairsRead(left, 8, " and ")...)
			list = append(list, pairsRead(left, 9, " or ")...)
		}
	}
	return list
}

func pairsRead(left condRead, op int, joint string) []condRead {
	behind, isJoint := strings.CutPrefix(left.rest, joint)
	if !isJoint {
		return nil
	}
	var list []condRead
	for _, right := range condsRead(behind) {
		if rest, isClosed := strings.CutPrefix(right.rest, ")"); isClosed {
			list = append(list, condRead{inner(op, left.x, right.x), rest})
		}
	}
	return list
}

func condOfText(s string) (impl.Cond, bool) {
	if len(s) > maxText {
		return impl.Cond{}, false
	}
	for _, read := range condsRead(s) {
		if read.rest == "" && sizeByParts(read.x) <= maxCond {
			return read.x, true
		}
	}
	return impl.Cond{}, false
}

// goodConds holds valid conditions of many forms.
func goodConds() []impl.Cond {
	list := append(someConds(), drawnConds(120, false)...)
	for _, leaf := range goodLeaves() {
		list = append(list, negations(14, leaf), full(3, leaf), leaning(0, 7, leaf), leaning(1, 7, leaf), inner(7, leaf), inner(8, leaf, always()), inner(9, always(), leaf))
	}
	return slices.DeleteFunc(list, func(x impl.Cond) bool { return !isGoodCond(x) })
}

func goodTexts() []string {
	var list []string
	for _, x := range goodConds() {
		list = append(list, textByParts(x))
	}
	slices.Sort(list)
	return slices.Compact(list)
}

// fewTexts holds texts in which each word, bracket and number has each neighbour that it can have.
func fewTexts() []string {
	return []string{
		"true",
		"role 1 20",
		"owns 305",
		"health 2 5",
		"build 0 10000",
		"before 70",
		"not not owns 0",
		"(true and before 10)",
		"(not role 5 0 or not true)",
		"not (health 3 1 or (build 1 7 and owns 9))",
		"((role 0 1 or not true) and (before 5 or health 3 9))",
		"(((true or owns 1) and true) or not (before 0 and build 3 33))",
	}
}

func checkFormatted(t *testing.T, x impl.Cond, want string) {
	t.Helper()
	if got := impl.FormatCond(x); got != want {
		t.Errorf("FormatCond(%v) = %q, want %q", x, got, want)
	}
}

func checkRead(t *testing.T, s string, want impl.Cond) {
	t.Helper()
	got, ok := impl.ParseCond(s)
	if !ok || !sameConds(got, want) {
		t.Errorf("ParseCond(%q) = %v, %v, want %v", s, got, ok, want)
	}
	checkFormatted(t, got, s)
}

func checkNotRead(t *testing.T, s string) {
	t.Helper()
	got, ok := impl.ParseCond(s)
	if ok || !sameConds(got, impl.Cond{}) {
		t.Errorf("ParseCond(%.500q) = %v, %v", s, got, ok)
	}
}

// checkText is asked for so many texts that one that is wrong has to be enough for a test.
func checkText(t *testing.T, s string) {
	t.Helper()
	if t.Failed() {
		return
	}
	if want, isText := condOfText(s); isText {
		checkRead(t, s, want)
	} else {
		checkNotRead(t, s)
	}
}

func TestMaxText(t *testing.T) {
	if impl.MaxText != maxText {
		t.Error(impl.MaxText)
	}
}

func TestCondName(t *testing.T) {
	want := map[int]string{1: "true", 2: "role", 3: "owns", 4: "health", 5: "build", 6: "before", 7: "not", 8: "and", 9: "or"}
	for _, op := range slices.Concat(countedFrom(-300, 900), noOperations(), atTheEnds()) {
		if got := impl.CondName(op); got != want[op] {
			t.Errorf("CondName(%d) = %q, want %q", op, got, want[op])
		}
	}
	for _, op := range []int{-1, 0, impl.CdOr + 1, math.MinInt, math.MaxInt} {
		if got := impl.CondName(op); got != "" {
			t.Errorf("CondName(%d) = %q", op, got)
		}
	}
}

// Each pair is read in both directions.
func TestTextsOfConditions(t *testing.T) {
	a, b, c := cond(2, 1, 20), cond(4, 2, 5), cond(6, 70, 0)
	for _, pair := range []struct {
		x    impl.Cond
		text string
	}{
		{always(), "true"},
		{a, "role 1 20"},
		{cond(2, 0, 0), "role 0 0"},
		{cond(2, 0, maxTime), "role 0 10000"},
		{cond(2, maxRole, 0), "role 5 0"},
		{cond(2, maxRole, maxTime), "role 5 10000"},
		{cond(3, 0, 0), "owns 0"},
		{cond(3, 0, 3), "owns 3"},
		{cond(3, 0, maxTime), "owns 10000"},
		{cond(4, 0, 0), "health 0 0"},
		{b, "health 2 5"},
		{cond(4, 3, 0), "health 3 0"},
		{cond(4, 3, maxTime), "health 3 10000"},
		{cond(5, 0, 0), "build 0 0"},
		{cond(5, 1, 0), "build 1 0"},
		{cond(5, 0, 1), "build 0 1"},
		{cond(5, 3, maxTime), "build 3 10000"},
		{cond(6, 0, 0), "before 0"},
		{c, "before 70"},
		{cond(6, maxTime, 0), "before 10000"},
		{inner(7, always()), "not true"},
		{inner(7, a), "not role 1 20"},
		{inner(7, inner(7, always())), "not not true"},
		{inner(8, a, b), "(role 1 20 and health 2 5)"},
		{inner(8, b, a), "(health 2 5 and role 1 20)"},
		{inner(9, a, b), "(role 1 20 or health 2 5)"},
		{inner(9, always(), always()), "(true or true)"},
		{inner(7, inner(8, a, c)), "not (role 1 20 and before 70)"},
		{inner(8, inner(7, a), c), "(not role 1 20 and before 70)"},
		{inner(8, a, inner(7, c)), "(role 1 20 and not before 70)"},
		{inner(9, inner(8, a, b), c), "((role 1 20 and health 2 5) or before 70)"},
		{inner(9, a, inner(8, b, c)), "(role 1 20 or (health 2 5 and before 70))"},
		{inner(9, inner(8, a, inner(7, b)), inner(8, b, a)), "((role 1 20 and not health 2 5) or (health 2 5 and role 1 20))"},
		{full(2, always()), "((true or true) and (true or true))"},
	} {
		checkFormatted(t, pair.x, pair.text)
		checkRead(t, pair.text, pair.x)
	}
}

func TestFormatCondOfAnyCondition(t *testing.T) {
	checkFormatted(t, impl.Cond{}, "")
	for _, x := range slices.Concat(anyConds(), goodConds(), drawnConds(600, false), drawnConds(600, true)) {
		checkFormatted(t, x, wantedText(x))
		checkFormatted(t, sparedCond(x), wantedText(x))
	}
}

// Each operation, with numbers around the ends of all ranges and with too few and too many arguments.
func TestFormatCondOfEveryNode(t *testing.T) {
	numbers := []int{-1, 0, 1, 3, 4, 5, 6, maxTime, maxTime + 1, math.MinInt, math.MaxInt, 1 << 32}
	for _, op := range append(countedFrom(-3, 16), noOperations()...) {
		for _, a := range numbers {
			for _, b := range numbers {
				for count := range 5 {
					x := cond(op, a, b, slices.Repeat([]impl.Cond{always()}, count)...)
					for _, whole := range []impl.Cond{x, inner(7, x), inner(8, x, always()), inner(9, always(), inner(7, x))} {
						checkFormatted(t, whole, wantedText(whole))
					}
				}
			}
		}
	}
}

func TestFormatCondOfEveryNumber(t *testing.T) {
	for op := 1; op <= 9; op++ {
		form, _ := shapeOf(op)
		args := slices.Repeat([]impl.Cond{cond(6, 4, 0)}, form.args)
		for n := -20; n <= maxTime+20; n++ {
			for _, x := range []impl.Cond{cond(op, n, 0, args...), cond(op, 0, n, args...), cond(op, n, form.mostB, args...), cond(op, form.mostA, n, args...)} {
				checkFormatted(t, x, wantedText(x))
			}
		}
	}
}

// A wrong node stands at every place of conditions that remain small enough.
func TestFormatCondWithOneWrongNode(t *testing.T) {
	for _, x := range someConds() {
		for place := range sizeByParts(x) {
			for _, bad := range badNodes() {
				checkFormatted(t, changedAt(x, place, func(node *impl.Cond) { *node = bad }), "")
			}
			checkFormatted(t, changedAt(x, place, func(node *impl.Cond) { node.Args = append(node.Args, always()) }), "")
		}
	}
}

// Empty arguments are as good as none.
func TestFormatCondOfNoArguments(t *testing.T) {
	for op := -2; op <= 11; op++ {
		for _, empty := range [][]impl.Cond{nil, {}, make([]impl.Cond, 0, 9), someConds()[:0]} {
			x := impl.Cond{Op: op, Args: empty}
			checkFormatted(t, x, wantedText(x))
			checkFormatted(t, inner(7, x), wantedText(inner(7, x)))
			checkFormatted(t, inner(8, x, x), wantedText(inner(8, x, x)))
		}
	}
}

// Conditions of all sizes around MaxCond, and their texts, which are well formed for any size.
func TestTextsOfEverySize(t *testing.T) {
	check := func(x impl.Cond) {
		t.Helper()
		checkFormatted(t, x, wantedText(x))
		if isGoodCond(x) {
			checkRead(t, textByParts(x), x)
		} else {
			checkNotRead(t, textByParts(x))
		}
	}
	a := cond(2, 1, 20)
	for n := range 60 {
		for _, leaf := range []impl.Cond{a, always(), cond(4, 3, maxTime)} {
			check(negations(n, leaf))
			for side := range 2 {
				check(leaning(side, n, leaf))
				check(negations(3, leaning(side, n, leaf)))
				check(leaning(side, 2, negations(n, leaf)))
				check(inner(8, leaning(side, n/2, leaf), leaning(1-side, n-n/2, leaf)))
			}
		}
	}
	for depth := range 6 {
		check(full(depth, a))
		check(negations(1, full(depth, always())))
		check(negations(3, full(depth, a)))
	}
	for left := range 18 {
		for right := range 18 {
			check(inner(8, negations(left, a), negations(right, always())))
			check(inner(9, negations(left, always()), inner(7, negations(right, a))))
		}
	}
}

// The greatest conditions that are valid, and those with one node more at any place.
func TestTextsWithOneNodeTooMany(t *testing.T) {
	a := cond(2, 1, 20)
	for _, x := range []impl.Cond{negations(14, a), full(3, a), leaning(0, 7, a), leaning(1, 7, a), negations(4, leaning(1, 5, a)), leaning(0, 1, negations(6, a)), inner(8, full(2, a), negations(6, a)), inner(9, negations(4, a), negations(2, full(2, a)))} {
		checkFormatted(t, x, textByParts(x))
		checkRead(t, textByParts(x), x)
		for place := range maxCond {
			larger := changedAt(x, place, func(node *impl.Cond) { *node = inner(7, *node) })
			checkFormatted(t, larger, "")
			checkNotRead(t, textByParts(larger))
			muchLarger := changedAt(x, place, func(node *impl.Cond) { *node = inner(9, *node, always()) })
			checkFormatted(t, muchLarger, "")
			checkNotRead(t, textByParts(muchLarger))
		}
	}
}

func TestFormatCondOfVeryLargeConditions(t *testing.T) {
	const n = 200000
	a := cond(2, 1, 20)
	for _, x := range []impl.Cond{negations(n, a), leaning(0, n, a), leaning(1, n, a), cond(8, 0, 0, slices.Repeat([]impl.Cond{a}, n)...), cond(2, 1, 20, slices.Repeat([]impl.Cond{a}, n)...)} {
		if got := impl.FormatCond(x); got != "" {
			t.Errorf("FormatCond of a very large condition = %.100q", got)
		}
	}
}

func TestFormatCondOfWhatContainsItself(t *testing.T) {
	for op := 7; op <= 9; op++ {
		for place := range op/8 + 1 {
			args := slices.Repeat([]impl.Cond{always()}, op/8+1)
			args[place] = impl.Cond{Op: op, Args: args}
			if impl.FormatCond(args[place]) != "" || impl.FormatCond(impl.Cond{Op: 7, Args: args[place : place+1]}) != "" {
				t.Errorf("there is a text with the operation %d", op)
			}
		}
	}
}

// Two nodes that are one in memory are written twice.
func TestFormatCondOfPartsThatShareMemory(t *testing.T) {
	x := cond(2, 1, 20)
	for range 6 {
		checkFormatted(t, x, wantedText(x))
		x = cond(8, 0, 0, x, x)
	}
	whole := []impl.Cond{cond(2, 1, 20), cond(4, 2, 5), cond(6, 70, 0)}
	checkFormatted(t, cond(8, 0, 0, cond(9, 0, 0, whole[:2]...), cond(9, 0, 0, whole[1:]...)), "((role 1 20 or health 2 5) and (health 2 5 or before 70))")
}

// The promise, from conditions to texts and back.
func TestConditionsAreReadFromTheirText(t *testing.T) {
	leaves := []impl.Cond{cond(2, 1, 20), cond(6, 1, 0), always()}
	for _, x := range slices.Concat(goodConds(), drawnConds(600, false), slices.Concat(condsOfSize(6, leaves, 7, 8, 9)...)) {
		text := impl.FormatCond(x)
		if !isGoodCond(x) {
			checkFormatted(t, x, "")
			continue
		}
		checkFormatted(t, x, textByParts(x))
		checkRead(t, text, x)
		if size := sizeByParts(x); size < maxCond {
			checkRead(t, "not "+text, impl.CondNot(x))
		}
		if size := sizeByParts(x); size <= maxCond/2 {
			checkRead(t, "("+text+" and "+text+")", impl.CondAnd(x, x))
			checkRead(t, "("+text+" or "+text+")", impl.CondOr(x, x))
		}
	}
}

// Conditions that differ have texts that differ.
func TestNoTextStandsForTwoConditions(t *testing.T) {
	met := map[string]impl.Cond{}
	leaves := []impl.Cond{cond(3, 0, 1), cond(6, 1, 0), cond(3, 0, 11)}
	for _, x := range append(goodConds(), slices.Concat(condsOfSize(6, leaves, 7, 8, 9)...)...) {
		text := impl.FormatCond(x)
		if other, isMet := met[text]; isMet && !sameConds(other, x) {
			t.Errorf("%q stands for %v and %v", text, other, x)
		}
		met[text] = x
	}
}

func TestTextsOfEveryNumber(t *testing.T) {
	for n := -20; n <= maxTime+20; n++ {
		text := strconv.Itoa(n)
		for _, s := range []string{"role " + text + " 0", "role 5 " + text, "owns " + text, "health " + text + " 10000", "health 0 " + text, "build " + text + " 7", "build 3 " + text, "before " + text, "(before " + text + " or true)", "not owns " + text} {
			checkText(t, s)
		}
		isTime := 0 <= n && n <= maxTime
		if _, ok := impl.ParseCond("before " + text); ok != isTime {
			t.Errorf("before %d: %v", n, ok)
		}
		if _, ok := impl.ParseCond("role " + text + " 1"); ok != (0 <= n && n <= maxRole) {
			t.Errorf("role %d: %v", n, ok)
		}
		if _, ok := impl.ParseCond("build " + text + " 1"); ok != (0 <= n && n <= 3) {
			t.Errorf("build %d: %v", n, ok)
		}
	}
}

func TestTextsOfNoCondition(t *testing.T) {
	for _, s := range []string{
		"", " ", "  ", "\x00", "(", ")", "()", "( )", ")(", "(true", "true)", "(true)", "((true))", "( true )",
		"true true", "truetrue", "true and true", "true or true", "role", "role ", "role  ", "role 1", "role 1 ", "role 1 2 3", "role 1 2 ", "role  1 2", "role 1  2", "role1 2",
		"role12", "role -1 2", "role 1 -2", "role +1 2", "role 6 1", "role 1 10001", "role 01 1", "role 1 01", "role 00 1", "role 1 00", "role 1.0 2", "role a 2", "role 1 b", "role 1,2", "role(1 2)", "role (1) 2", "role (1 2)",
		"owns", "owns ", "owns 10001", "owns 1 2", "owns 0 1", "owns -0", "owns +0", "owns 00", "owns 0x1", "owns 1e3", "owns 1_000", "owns 3 ", "owns true", "owns p3",
		"health 4 0", "health 1", "health 2 5 7", "build 4 0", "build 0 0 0", "build 1", "before", "before ", "before 10001", "before 1 0", "before 0 0", "before -1",
		"true 0", "true 0 0", "true  ", "not", "not ", "not  ", "not  true", "not true true", "not 1", "not not", "not not ", "nottrue", "not(true and true)", "not(true)", "not (true)", "(not true)",
		"and", "or", "and true", "or true", "and true true", "or true true", "and 1 2", "(and)", "(or)", "(and and and)", "(or or or)", "(and true true)", "(true true and)", "(true and)", "(and true)", "(true and )", "( and true)", "( and )",
		"(true and true", "true and true)", "(true and true))", "((true and true)", "((true and true))", "(true and true) ", " (true and true)", "( true and true)", "(true and true )", "(true  and true)", "(true and  true)", "(trueand true)", "(true andtrue)", "(true and(true or true))", "((true or true)and true)",
		"(true xor true)", "(true & true)", "(true not true)", "(true true true)", "(true role true)", "(true role 1 2 true)", "(true before true)", "(true before 1)", "(true nor true)", "(true AND true)", "(true And true)", "(true ands true)", "(true an true)", "(true an d true)",
		"(true and true and true)", "(true or true or true)", "(true and true or true)", "(true, true)", "(true)(true)", "(true and true)(true or true)", "(true and true) and true", "(true and true) or (true and true)", "(true not)", "(true not true and true)", "(true and true or)",
		"TRUE", "True", "tRUE", "Role 1 2", "ROLE 1 2", "tru", "rue", "truee", "ttrue", "t", "r 1 2", "own 1", "owned 1", "befor 1", "beforehand 1", "noT true", "n true", "no true", "nott true",
		"true\n", "true\r\n", "\ntrue", "true\t", "\ttrue", "true\x00", "\x00true", "true\u00a0", "\ufefftrue", "not\ttrue", "not\ntrue", "role\t1 2", "role 1\t2", "role 1\n2", "role\u00a01 2", "(true\tand true)", "(true and\ttrue)", "(true\nand\ntrue)",
		"\xff", "\x80", "true\xff", "\xfftrue", "tru\xe9", "tr\u00fce", "r\u043ele 1 2", "owns \u0663", "owns \uff13", "owns \u00b2", "before 1\xc2", "\u00e9", "[true and true]", "{true and true}", "<true and true>", "(true and true]", "[true and true)", "\"true\"", "'true'", "`true`", "true.", "true;", "true,", "!true", "not-true", "not_true", "true and", "false", "0", "1", "7", "-1", "1 2",
	} {
		checkNotRead(t, s)
		checkText(t, s)
	}
}

// One byte is taken out, put in, or changed, at every place: any byte in few texts, and some of the likely ones in the others.
func TestTextsWithOneByteChanged(t *testing.T) {
	likely := []byte(" \t\n\r\v\f\x00()[]{}<>.,;:+-_*&|!\"'`/\\~#%^=$@?0123459abdefhilnorstuwORT\x7f\x80\xa0\xc2\xc3\xe2\xff")
	all := []byte{}
	for b := range 256 {
		all = append(all, byte(b))
	}
	change := func(s string, bytes []byte) {
		for place := range len(s) + 1 {
			before, behind := s[:place], s[place:]
			for _, b := range bytes {
				checkText(t, before+string([]byte{b})+behind)
				if behind != "" {
					checkText(t, before+string([]byte{b})+behind[1:])
				}
			}
			if behind != "" {
				checkText(t, before+behind[1:])
			}
		}
	}
	for _, s := range fewTexts() {
		change(s, all)
	}
	for i, s := range goodTexts() {
		if i%8 == 0 {
			change(s, likely)
		} else {
			first := i % 16 * 4
			change(s, append([]byte(" "), likely[first:first+4]...))
		}
	}
}

// What is longer than one byte is put in, or stands for one byte, at every place.
func TestTextsWithMoreThanOneByteChanged(t *testing.T) {
	parts := []string{"  ", "00", "10", "()", "))", "((", " )", "( ", ") ", " (", "\r\n", "\u00a0", "\u2003", "\u00e9", "\u0663", "\ufeff", "\u2028", "true", " true", "true ", "not ", " and true", " or true", "(true and ", " 0", " 1 2", "1 ", "not", "and", "or", "\xe2\x80", "\x00\x00"}
	for _, s := range append(fewTexts(), goodTexts()[:12]...) {
		for place := range len(s) + 1 {
			for _, part := range parts {
				checkText(t, s[:place]+part+s[place:])
				if place < len(s) {
					checkText(t, s[:place]+part+s[place+1:])
				}
			}
			for end := place; end <= len(s); end++ {
				checkText(t, s[place:end])
				checkText(t, s[:place]+s[end:])
			}
		}
	}
}

// replaced returns, for each place where the pattern is found in s, what each change makes of s there.
func replaced(s, pattern string, changes ...func(found string) string) []string {
	var list []string
	for _, at := range regexp.MustCompile(pattern).FindAllStringIndex(s, -1) {
		for _, change := range changes {
			list = append(list, s[:at[0]]+change(s[at[0]:at[1]])+s[at[1]:])
		}
	}
	return list
}

// to returns the changes that put these texts in place of what was found.
func to(texts ...string) []func(string) string {
	var changes []func(string) string
	for _, text := range texts {
		changes = append(changes, func(string) string { return text })
	}
	return changes
}

func checkNoneRead(t *testing.T, texts []string) {
	t.Helper()
	for _, s := range texts {
		checkNotRead(t, s)
	}
}

func TestBlanksInTexts(t *testing.T) {
	others := []string{"", "\t", "\n", "\r", "\r\n", "\v", "\f", "\x00", "\x85", "\xa0", "\u0085", "\u00a0", "\u2003", "\u3000", "_", "-", ".", ",", "+"}
	for _, s := range goodTexts() {
		checkNoneRead(t, replaced(s, " ", to(others...)...))
		checkNoneRead(t, replaced(s, " ", to("  ", "   ", " \t", "\t ", " \n", "\n ", strings.Repeat(" ", 50))...))
		for _, put := range append(others[1:], " ", "  ", strings.Repeat(" ", 50), strings.Repeat(" ", maxText-len(s)), strings.Repeat(" ", maxText+1-len(s))) {
			checkNotRead(t, s+put)
			checkNotRead(t, put+s)
			checkNotRead(t, put+s+put)
		}
		for place := range len(s) + 1 {
			checkNotRead(t, s[:place]+" "+s[place:])
		}
		for _, changed := range []string{strings.ReplaceAll(s, " ", "  "), strings.ReplaceAll(s, "(", "( "), strings.ReplaceAll(s, ")", " )")} {
			if changed != s {
				checkNotRead(t, changed)
			}
		}
	}
}

func TestWordsInTexts(t *testing.T) {
	for _, s := range goodTexts() {
		for _, word := range append(opWords(), "false", "xor", "nor", "iff", "if", "no", "a", "o", "owner", "ago", "after", "x", "1") {
			for _, changed := range replaced(s, "[a-z]+", to(word)...) {
				checkText(t, changed)
			}
		}
		for _, changed := range replaced(s, "[a-z]+",
			strings.ToUpper,
			func(w string) string { return strings.ToUpper(w[:1]) + w[1:] },
			func(w string) string { return w[:len(w)-1] + strings.ToUpper(w[len(w)-1:]) },
			func(w string) string { return w[1:] },
			func(w string) string { return w[:len(w)-1] },
			func(w string) string { return w[:1] },
			func(w string) string { return w + w[len(w)-1:] },
			func(w string) string { return w[:1] + w },
			func(w string) string { return w + w },
			func(w string) string { return w + "s" },
			func(w string) string { return w + "\x00" },
			func(w string) string { return w + "\u0301" },
			func(w string) string { return w + "0" },
			func(w string) string { return w + "-" },
			func(w string) string { return "" },
			func(w string) string { return w[1:] + w[:1] },
			func(w string) string { return strings.ReplaceAll(w, "o", "\u043e") + "\u200b" },
		) {
			checkNotRead(t, changed)
		}
		if changed := strings.ToUpper(s); changed != s {
			checkNotRead(t, changed)
		}
	}
}

func TestNumbersInTexts(t *testing.T) {
	wrong := []string{
		"", "-0", "+0", "-1", "+1", "--1", "00", "000", "01", "001", "010", "0010000", "1.0", "1.", ".5", "1e0", "1e1", "0x0", "0x1", "0b1", "0o1", "1_0", "1,0", "1'0", "a", "x1", "1x", "#1", "$1", "1-", "1+", "NaN", "inf", "one", "true", "(1)", "()",
		"10001", "10010", "11000", "99999", "100000", "1000000000000", "1000000000001", "2147483648", "4294967296", "4294967297", "9223372036854775807", "9223372036854775808", "18446744073709551615", "18446744073709551616", "18446744073709551617", "340282366920938463463374607431768211457", strings.Repeat("9", 100), strings.Repeat("0", 100), "0" + strings.Repeat("1", 40), strings.Repeat("9", 399),
		"\u0663", "\uff11", "\u00b9", "\u2460", "1\u00a0", "1\x00", "\x001", "\xb1", "1\xff", "1\t", "\t1", "1\n", " 1", "1 ", " ", "1 1 1", "p0", "1 true", "1(", "1)", "(1", "1()",
	}
	for _, s := range goodTexts() {
		checkNoneRead(t, replaced(s, "[0-9]+", to(wrong...)...))
		checkNoneRead(t, replaced(s, "[0-9]+",
			func(n string) string { return "0" + n },
			func(n string) string { return "+" + n },
			func(n string) string { return "-" + n },
			func(n string) string { return n + ".0" },
			func(n string) string { return n + " " },
			func(n string) string { return " " + n },
			func(n string) string { return n + " 0" },
			func(n string) string { return "0 0 " + n },
			func(n string) string { return n + "00000" + n },
			func(n string) string { return strconv.Itoa(-1 - len(n)) },
		))
		for _, n := range []string{"0", "1", "2", "3", "4", "5", "6", "7", "9", "10", "99", "100", "9999", "10000", "10001"} {
			for _, changed := range replaced(s, "[0-9]+", to(n)...) {
				checkText(t, changed)
			}
		}
	}
}

func TestBracketsInTexts(t *testing.T) {
	for _, s := range goodTexts() {
		checkNoneRead(t, replaced(s, `[()]`, to("", "[", "]", "{", "}", "<", ">", "|", "\"", "'", "((", "))", "()", ")(", "( ", " )", "\uff08", "\uff09", " ", "\\(")...))
		checkNoneRead(t, replaced(s, `\(`, to(")")...))
		checkNoneRead(t, replaced(s, `\)`, to("(")...))
		checkNoneRead(t, replaced(s, `[a-z]+( [0-9]+)*`, func(w string) string { return "(" + w + ")" }, func(w string) string { return "(" + w }, func(w string) string { return w + ")" }))
		checkNoneRead(t, []string{"(" + s + ")", "((" + s + "))", "(" + s, s + ")", "[" + s + "]", s + "()", "()" + s, "(" + s + " and)", "(and " + s + ")", "(" + s + " or )", "( or " + s + ")", s + "(", ")" + s})
		for _, other := range [][2]string{{"((", "))"}, {"(", ""}, {"", ")"}, {"", ""}, {")", "("}, {"[", "]"}, {"{", "}"}, {"( ", " )"}} {
			if changed := strings.NewReplacer("(", other[0], ")", other[1]).Replace(s); changed != s {
				checkNotRead(t, changed)
			}
		}
	}
}

// What stands between two conditions is " and " or " or ", once.
func TestWhatStandsBetweenTwoConditions(t *testing.T) {
	for _, left := range fewTexts() {
		for _, right := range fewTexts() {
			for op, joint := range map[int]string{8: " and ", 9: " or "} {
				x, _ := condOfText(left)
				y, _ := condOfText(right)
				if whole := inner(op, x, y); isGoodCond(whole) {
					checkRead(t, "("+left+joint+right+")", whole)
				} else {
					checkNotRead(t, "("+left+joint+right+")")
				}
				checkNoneRead(t, []string{left + joint + right, left + joint + right + ")", "(" + left + joint + right, "(" + left + joint + right + joint + right + ")", "(" + left + joint + ")", "(" + joint + right + ")", "(" + left + joint + joint + right + ")", "(" + left + ")" + joint + "(" + right + ")", joint + left + right, left + right + joint, "(" + joint[1:] + left + " " + right + ")"})
			}
			for _, joint := range []string{"", " ", "  ", "and", "or", " and", "and ", " or", "or ", "  and ", " and  ", " and\t", "\tor ", " And ", " OR ", " true ", " role ", " role 1 2 ", " not ", " before ", " before 1 ", " owns ", " health ", " build ", " xor ", " nor ", " nand ", " an ", " o ", " andor ", " and or ", " or and ", " and and ", ",", ", ", " & ", " && ", " | ", " || ", " + ", " 8 ", " 9 ", " and ) ", " ( and ", ") and (", " or\x00", " or\u00a0", " and, ", " (and) "} {
				checkNotRead(t, "("+left+joint+right+")")
				checkNotRead(t, left+joint+right)
			}
		}
	}
}

func TestEveryTextOfFewTokens(t *testing.T) {
	for _, c := range []struct {
		most   int
		tokens []string
	}{
		{8, []string{" ", "(", ")", "true", "and"}},
		{7, []string{" ", "(", ")", "before 5", "not", "or"}},
		{5, []string{" ", "(", ")", "true", "not", "and", "or", "owns", "role", "1"}},
		{5, []string{" ", "health", "build", "before", "role", "0", "3", "5", "10000", "true"}},
	} {
		var grow func(s string, left int)
		grow = func(s string, left int) {
			checkText(t, s)
			if left == 0 {
				return
			}
			for _, token := range c.tokens {
				grow(s+token, left-1)
			}
		}
		grow("", c.most)
	}
}

// Tokens are drawn so that texts of conditions come up often.
func TestDrawnTexts(t *testing.T) {
	seed := uint32(16)
	draw := func(n int) int {
		seed = seed*1664525 + 1013904223
		return int(seed>>16) % n
	}
	parts := append(fewTexts(), "(", "(", ")", ")", " and ", " or ", " and ", "not ", "not ", " ", "true", "before 5", "role 1 2", "health 3 ", "owns", "0", "12", "\xff")
	countRead := 0
	for range 200000 {
		s := ""
		for range 1 + draw(8) {
			s += parts[draw(len(parts))]
		}
		checkText(t, s)
		if _, isText := condOfText(s); isText {
			countRead++
		}
	}
	if countRead < 1000 {
		t.Errorf("only %d texts were read", countRead)
	}
}

// The text of a valid condition stays far below MaxText, so whatever has MaxText bytes or more is none.
func TestTextsAroundMaxText(t *testing.T) {
	longest := full(3, cond(4, 3, maxTime))
	for _, node := range nodesIn(&longest) {
		if len(node.Args) == 2 {
			node.Op = 8
		}
	}
	text := textByParts(longest)
	checkFormatted(t, longest, text)
	checkRead(t, text, longest)
	for _, s := range goodTexts() {
		if len(s) > len(text) {
			t.Errorf("%q is longer than the longest text", s)
		}
	}
	for size := maxText - 3; size <= maxText+3; size++ {
		for _, s := range append(fewTexts(), text) {
			left := size - len(s)
			checkNotRead(t, s+strings.Repeat(" ", left))
			checkNotRead(t, strings.Repeat(" ", left)+s)
			checkNotRead(t, s+strings.Repeat("\x00", left))
			checkNotRead(t, s+strings.Repeat(")", left))
			checkNotRead(t, strings.Repeat("(", left/2)+s+strings.Repeat(")", left-left/2))
			checkNotRead(t, s+" "+strings.Repeat("(", left-1))
		}
		checkNotRead(t, strings.Repeat("not ", size/4)+"true"[size%4:])
		checkNotRead(t, strings.Repeat("not ", (size-4)/4)+"true")
		checkNotRead(t, "owns "+strings.Repeat("0", size-5))
		checkNotRead(t, "owns "+strings.Repeat("1", size-5))
		checkNotRead(t, strings.Repeat("true", size/4))
		checkNotRead(t, strings.Repeat("a", size))
		checkNotRead(t, strings.Repeat(" ", size))
	}
	// Well formed, with exactly MaxText bytes and with one more.
	checkNotRead(t, strings.Repeat("not ", 99)+"true")
	checkNotRead(t, strings.Repeat("not ", 98)+"owns 9999")
}

// Texts that open very many brackets, or that nest more deeply than a parser that does not look at their length could follow.
func TestVeryDeepTexts(t *testing.T) {
	for _, n := range []int{1, 2, 7, 8, 15, 16, 20, 50, 99, 100, 101, 133, 399, 400, 401, 1000, 100000, 1 << 24} {
		checkNotRead(t, strings.Repeat("(", n))
		checkNotRead(t, strings.Repeat(")", n))
		checkNotRead(t, strings.Repeat("(", n)+"true")
		if n > 100000 {
			n /= 4
		}
		checkNotRead(t, strings.Repeat("not ", n))
		checkNotRead(t, strings.Repeat("(not ", n)+"true")
		checkNotRead(t, strings.Repeat("not (", n)+"true"+strings.Repeat(")", n))
		checkNotRead(t, strings.Repeat("(true and ", n))
		if n > 14 {
			checkNotRead(t, strings.Repeat("not ", n)+"true")
			checkNotRead(t, strings.Repeat("(true and ", n)+"true"+strings.Repeat(")", n))
			checkNotRead(t, strings.Repeat("(", n)+"true"+strings.Repeat(" or true)", n))
		}
	}
}

// Texts of 16 nodes that are well formed, and what is left of them with one node fewer.
func TestTextsOfSixteenNodes(t *testing.T) {
	for _, x := range []impl.Cond{
		negations(15, always()),
		negations(1, full(3, always())),
		negations(1, full(3, cond(4, 3, maxTime))),
		negations(1, leaning(0, 7, cond(3, 0, 1))),
		negations(1, leaning(1, 7, cond(6, 2, 0))),
		leaning(0, 7, cond(2, 1, 20)),
		inner(8, negations(7, always()), negations(6, cond(3, 0, 2))),
		inner(9, full(2, always()), negations(1, full(2, cond(5, 3, 1)))),
	} {
		size := sizeByParts(x)
		if size < maxCond || size > maxCond+1 {
			t.Fatalf("%v has %d nodes", x, size)
		}
		checkText(t, textByParts(x))
		if size == maxCond {
			checkRead(t, textByParts(x), x)
			x = inner(7, x)
		}
		checkNotRead(t, textByParts(x))
		checkFormatted(t, x, "")
		for place, node := range nodesIn(&x) {
			if node.Op == 7 {
				smaller := changedAt(x, place, func(node *impl.Cond) { *node = node.Args[0] })
				checkRead(t, textByParts(smaller), smaller)
			}
		}
	}
}

func TestFormatCondLeavesItsArgument(t *testing.T) {
	for _, want := range append(anyConds(), drawnConds(60, true)...) {
		x := sparedCond(want)
		checkFormatted(t, x, wantedText(want))
		checkFormatted(t, x, wantedText(want))
		if !isCondUntouched(x, want) {
			t.Errorf("%v became %v", want, x)
		}
	}
}

func TestConditionsReadShareNoMemory(t *testing.T) {
	m := memory{}
	for _, s := range append(goodTexts(), "true )", "(true and true) ", "not ", "", negatedText(15)) {
		for range 3 {
			x, _ := impl.ParseCond(s)
			if !m.enter([]impl.Cond{x}) {
				t.Errorf("what ParseCond(%q) returns shares memory", s)
			}
		}
	}
}

func negatedText(n int) string {
	return strings.Repeat("not ", n) + "true"
}

// Each node of a result is spoiled in turn, and its arguments grow: no other result may change, nor another node of this one.
func TestSpoiledConditionsThatWereRead(t *testing.T) {
	spoil := func(node *impl.Cond) {
		node.Op, node.A, node.B = 1000, 1000, 1000
		node.Args = append(node.Args, impl.Cond{Op: 1000})
	}
	for _, s := range goodTexts() {
		want, _ := condOfText(s)
		before, _ := impl.ParseCond(s)
		for place := range sizeByParts(want) {
			got, _ := impl.ParseCond(s)
			spoil(nodesIn(&got)[place])
			if !sameConds(got, changedAt(want, place, spoil)) || !sameConds(before, want) {
				t.Errorf("what ParseCond(%q) returns shares memory", s)
			}
			checkRead(t, s, want)
		}
	}
}

// A text that could not be read leaves nothing behind for the next one.
func TestTextsReadInTurn(t *testing.T) {
	bad := []string{"", "true ", "(true and", "role 1", "((true or true) and ", "not not ", strings.Repeat("(", maxText), strings.Repeat("not ", 100), "\xff"}
	for i, s := range goodTexts() {
		want, _ := condOfText(s)
		checkNotRead(t, bad[i%len(bad)])
		checkRead(t, s, want)
		checkNotRead(t, bad[i%len(bad)])
		checkRead(t, s, want)
	}
}
