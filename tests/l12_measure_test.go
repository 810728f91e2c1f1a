package tests

import (
	"math"
	"slices"
	"strings"
	"testing"

	"loop.example/g00594/impl"
)

const maxBoot = 8

func countedTo(n int) []int {
	log := make([]int, n)
	for i := range log {
		log[i] = i + 1
	}
	return log
}

// someLogs holds valid logs of every length, with the least and the greatest elements at every end.
func someLogs() [][]int {
	logs := [][]int{
		nil, {}, {0}, {4}, {99}, {0, 0}, {0, 99}, {99, 0}, {99, 99}, {3, 0, 99}, {0, 3, 99}, {50, 51, 52}, {7, 7, 7, 7},
		slices.Repeat([]int{0}, maxBoot), slices.Repeat([]int{99}, maxBoot), slices.Repeat([]int{99, 0}, maxBoot/2), {8, 7, 6, 5, 4, 3, 2, 1},
	}
	for n := 1; n <= maxBoot; n++ {
		logs = append(logs, countedTo(n))
	}
	return logs
}

// noElements holds numbers that are no elements of a log, some of them with the hash of one.
func noElements() []int {
	return []int{
		-1, -2, -50, -99, -100, 100, 101, 127, 199, 256, 1000,
		modulus - 1, modulus, modulus + 3, -modulus, -modulus + 3, 1 << 32, 1<<32 + 3, math.MinInt, math.MinInt + 50, math.MaxInt, math.MaxInt - 50,
	}
}

// noLogs holds logs that are too long, and logs with one element that is none, at each end and in the middle.
func noLogs() [][]int {
	logs := [][]int{
		countedTo(maxBoot + 1), countedTo(maxBoot + 2), slices.Repeat([]int{0}, maxBoot+1), slices.Repeat([]int{99}, maxBoot+1), slices.Repeat([]int{5}, 2*maxBoot), make([]int, 1000),
	}
	for _, m := range noElements() {
		logs = append(logs, []int{m}, []int{m, m}, with(countedTo(maxBoot), 4, m))
		for _, rest := range [][]int{{3}, {0, 99}, countedTo(maxBoot - 1)} {
			logs = append(logs, with(rest, 0, m), with(rest, (len(rest)+1)/2, m), with(rest, len(rest), m))
		}
	}
	return logs
}

func noDevices() []int {
	return append(noNames(), 10, 15, 19, 30, 35, 39, 40, 45, 49)
}

// changedLogs holds what log becomes with one element more, less or changed, or with two of them exchanged.
func changedLogs(log []int) [][]int {
	var logs [][]int
	for place := range len(log) + 1 {
		for _, m := range []int{0, 1, 4, 99, -1, 100} {
			logs = append(logs, with(log, place, m))
		}
	}
	for place := range log {
		logs = append(logs, without(log, place))
		for _, d := range []int{1, -1, 2, 50, -50, modulus, -modulus, 1 << 32} {
			other := slices.Clone(log)
			other[place] += d
			logs = append(logs, other)
		}
		for second := range place {
			other := slices.Clone(log)
			other[place], other[second] = other[second], other[place]
			logs = append(logs, other)
		}
	}
	return slices.DeleteFunc(logs, func(other []int) bool { return slices.Equal(other, log) })
}

// foldedRegister is the register of the log by the formula of the document, whether it is valid or not.
func foldedRegister(log []int) int {
	r := 0
	for _, m := range log {
		r = bigHash([]int{r, m})
	}
	return r
}

// quoteWithMark is the quote as the holder of this key marks it, whether it is valid or not.
func quoteWithMark(key int, q impl.Quote) impl.Quote {
	q.Mark = bigKeyedHash(key, q.Device, q.Register, q.Nonce, q.At)
	return q
}

func quoteOf(key, device int, log []int, nonce, at int) impl.Quote {
	return quoteWithMark(key, impl.Quote{Device: device, Register: foldedRegister(log), Nonce: nonce, At: at})
}

// changedQuotes adds d to one part each; the last one of them has another Mark only.
func changedQuotes(q impl.Quote, d int) []impl.Quote {
	l := slices.Repeat([]impl.Quote{q}, 5)
	l[0].Device += d
	l[1].Register += d
	l[2].Nonce += d
	l[3].At += d
	l[4].Mark += d
	return l
}

func checkNotQuoted(t *testing.T, key, device int, log []int, nonce, at int) {
	t.Helper()
	if got, ok := impl.MakeQuote(key, device, log, nonce, at); ok || got != (impl.Quote{}) {
		t.Errorf("MakeQuote(%d, %d, %v, %d, %d) = %v, %v", key, device, log, nonce, at, got, ok)
	}
}

func checkGood(t *testing.T, key int, q impl.Quote, log []int, nonce, now, age int, want bool) {
	t.Helper()
	if got := impl.CheckQuote(key, q, log, nonce, now, age); got != want {
		t.Errorf("CheckQuote(%d, %v, %v, %d, %d, %d) = %v", key, q, log, nonce, now, age, got)
	}
}

func TestMaxBoot(t *testing.T) {
	if impl.MaxBoot != maxBoot {
		t.Errorf("MaxBoot is %d", impl.MaxBoot)
	}
}

// The registers are written out, as they were worked out by the formula of the document.
func TestExtendRegister(t *testing.T) {
	for _, c := range []struct{ r, m, want int }{
		{0, 0, 667760217},
		{0, 4, 667760221},
		{0, 99, 667760316},
		{1, 0, 668760220},
		{0, 1, 667760218},
		{5, 3, 672760235},
		{3, 5, 670760231},
		{667760217, 0, 700522571},
		{667760217, 1, 700522572},
		{100, 100, 767760617},
		{-1, 3, 666760217},
		{3, -1, 670760225},
		{modulus - 1, 99, 666760313},
		{modulus - 1, modulus - 1, 666760213},
		{modulus, 0, 667760217},
		{0, modulus, 667760217},
		{modulus + 1, 2, 668760222},
		{-modulus, -modulus - 1, 667760216},
		{maxValue, 7, 1759631676},
		{7, maxValue, 2094864383},
		{math.MinInt, 0, 665760211},
		{math.MaxInt, 0, 668760220},
		{0, math.MinInt, 667760215},
		{0, math.MaxInt, 667760218},
		{math.MinInt, math.MaxInt, 665760212},
		{math.MaxInt, math.MinInt, 668760218},
	} {
		if got := impl.ExtendRegister(c.r, c.m); got != c.want {
			t.Errorf("ExtendRegister(%d, %d) = %d, want %d", c.r, c.m, got, c.want)
		}
	}
	for _, r := range append(atTheEnds(), 667760217, 700522571) {
		for _, m := range append(atTheEnds(), 50, 98, 99, 100) {
			if got, want := impl.ExtendRegister(r, m), bigHash([]int{r, m}); got != want {
				t.Errorf("ExtendRegister(%d, %d) = %d, want %d", r, m, got, want)
			}
		}
	}
}

// The registers are written out, as they were worked out by the formula of the document.
func TestRegisterOf(t *testing.T) {
	for _, c := range []struct {
		log  []int
		want int
	}{
		{nil, 0},
		{[]int{}, 0},
		{[]int{0}, 667760217},
		{[]int{4}, 667760221},
		{[]int{99}, 667760316},
		{[]int{0, 0}, 700522571},
		{[]int{0, 99}, 700522670},
		{[]int{99, 0}, 799522868},
		{[]int{3, 0}, 703522580},
		{[]int{3, 0, 99}, 1125636268},
		{[]int{0, 3, 99}, 1145291109},
		{[]int{3, 0, 99, 0}, 251871972},
		{slices.Repeat([]int{7}, maxBoot), 1818938709},
		{slices.Repeat([]int{0}, maxBoot), 578264650},
		{slices.Repeat([]int{99}, maxBoot), 331504695},
		{countedTo(maxBoot), 784078032},
		{countedTo(maxBoot + 1), 412736270},
		{slices.Repeat([]int{0}, maxBoot+1), 1246024595},
		{[]int{-1}, 667760216},
		{[]int{100}, 667760317},
		{[]int{modulus}, 667760217},
		{[]int{modulus - 1}, 667760216},
		{[]int{5, -3, 5}, 1827360826},
		{[]int{math.MinInt, math.MaxInt}, 698522566},
		{[]int{math.MaxInt, math.MinInt}, 701522572},
		{[]int{maxValue, maxValue, maxValue}, 1058982039},
	} {
		if got := impl.RegisterOf(c.log); got != c.want {
			t.Errorf("RegisterOf(%v) = %d, want %d", c.log, got, c.want)
		}
	}
}

func TestRegisterOfIsExtendedByEachElement(t *testing.T) {
	for _, log := range slices.Concat(someLogs(), noLogs(), someSequences()) {
		want := 0
		for n := range len(log) + 1 {
			if got := impl.RegisterOf(log[:n]); got != want || got != foldedRegister(log[:n]) {
				t.Errorf("RegisterOf(%v) = %d, want %d", log[:n], got, want)
			}
			if n < len(log) {
				want = impl.ExtendRegister(want, log[n])
			}
		}
	}
}

func TestEveryShortLogHasARegisterOfItsOwn(t *testing.T) {
	met := map[int][]int{}
	check := func(log ...int) {
		r := impl.RegisterOf(log)
		if other, isMet := met[r]; isMet {
			t.Errorf("%v and %v have the register %d", other, log, r)
		}
		met[r] = log
	}
	check()
	for a := range 100 {
		check(a)
		for b := range 100 {
			check(a, b)
			check(a, b, 99-a)
		}
	}
}

func TestIsLog(t *testing.T) {
	for _, log := range someLogs() {
		if !impl.IsLog(log) {
			t.Errorf("%v is none", log)
		}
	}
	for _, log := range noLogs() {
		if impl.IsLog(log) {
			t.Errorf("%v is a log", log)
		}
	}
}

func TestIsLogOfEveryLength(t *testing.T) {
	for n := range 100 {
		for _, m := range []int{0, 1, 50, 99} {
			log := slices.Repeat([]int{m}, n)
			if got := impl.IsLog(log); got != (n <= maxBoot) {
				t.Errorf("IsLog of %d elements %d = %v", n, m, got)
			}
		}
	}
	// What stands in the spare capacity is no part of the log.
	for n := range maxBoot + 1 {
		if log := countedTo(2 * maxBoot); !impl.IsLog(log[:n]) {
			t.Errorf("the first %d of %v are none", n, log)
		}
		if log := slices.Concat(countedTo(n), noElements()); !impl.IsLog(log[:n]) {
			t.Errorf("the first %d of %v are none", n, log)
		}
	}
}

func TestIsLogWithEveryElement(t *testing.T) {
	for m := -400; m <= 400; m++ {
		for n := range maxBoot {
			for place := range n + 1 {
				log := with(countedTo(n), place, m)
				if got, want := impl.IsLog(log), 0 <= m && m <= 99; got != want {
					t.Errorf("IsLog(%v) = %v", log, got)
				}
			}
		}
	}
}

// The registers and the marks are written out, as they were worked out by the formula of the document.
func TestMakeQuote(t *testing.T) {
	for _, c := range []struct {
		key  int
		log  []int
		want impl.Quote
	}{
		{200, []int{3, 0, 99}, impl.Quote{Device: 20, Register: 1125636268, Nonce: 7, At: 5, Mark: 1072374154}},
		{1, nil, impl.Quote{Device: 20, Register: 0, Nonce: 0, At: 0, Mark: 2029510824}},
		{modulus - 1, slices.Repeat([]int{99}, maxBoot), impl.Quote{Device: 29, Register: 331504695, Nonce: -1, At: maxTime, Mark: 1327408386}},
		{77, []int{0}, impl.Quote{Device: 25, Register: 667760217, Nonce: 0, At: maxTime - 1, Mark: 1165438572}},
		{77, []int{0}, impl.Quote{Device: 25, Register: 667760217, Nonce: modulus, At: maxTime - 1, Mark: 1165438572}},
		{2, countedTo(maxBoot), impl.Quote{Device: 21, Register: 784078032, Nonce: math.MinInt, At: 1, Mark: 2000237808}},
		{12345, slices.Repeat([]int{0}, maxBoot), impl.Quote{Device: 27, Register: 578264650, Nonce: math.MaxInt, At: 500, Mark: 341554647}},
		{9, []int{50, 50}, impl.Quote{Device: 28, Register: 750522771, Nonce: maxValue, At: 42, Mark: 2102323652}},
	} {
		got, ok := impl.MakeQuote(c.key, c.want.Device, c.log, c.want.Nonce, c.want.At)
		if !ok || got != c.want {
			t.Errorf("MakeQuote under %d of %v = %v, %v, want %v", c.key, c.log, got, ok, c.want)
		}
		checkGood(t, c.key, c.want, c.log, c.want.Nonce, c.want.At, 0, true)
	}
}

func TestMakeQuoteOfEveryLog(t *testing.T) {
	for _, log := range someLogs() {
		for i, key := range keysOfIssuers() {
			for _, nonce := range nonces() {
				for _, at := range []int{0, 1, 5, maxTime - 1, maxTime} {
					want := quoteOf(key, 20+i, log, nonce, at)
					if got, ok := impl.MakeQuote(key, 20+i, log, nonce, at); !ok || got != want {
						t.Errorf("MakeQuote(%d, %d, %v, %d, %d) = %v, %v, want %v", key, 20+i, log, nonce, at, got, ok, want)
					}
				}
			}
		}
	}
}

func TestMakeQuoteForEveryDeviceAndTime(t *testing.T) {
	log := []int{3, 0, 99}
	check := func(device, at int) {
		isRight := 20 <= device && device <= 29 && isOneOfTheTimes(at)
		if !isRight {
			checkNotQuoted(t, 200, device, log, 7, at)
			return
		}
		want := quoteOf(200, device, log, 7, at)
		if got, ok := impl.MakeQuote(200, device, log, 7, at); !ok || got != want {
			t.Errorf("MakeQuote for %d at %d = %v, %v, want %v", device, at, got, ok, want)
		}
	}
	for device := -100; device <= 600; device++ {
		for _, at := range []int{-1, 0, 5, maxTime, maxTime + 1} {
			check(device, at)
		}
	}
	for at := -60; at <= maxTime+60; at++ {
		check(24, at)
	}
}

// Each reason is enough by itself, and together with others.
func TestMakeQuoteThatIsNotValid(t *testing.T) {
	log := []int{3, 0, 99}
	for _, key := range noKeysOfIssuers() {
		checkNotQuoted(t, key, 20, log, 7, 5)
		checkNotQuoted(t, key, 20, nil, 0, 0)
		checkNotQuoted(t, key, 10, log, 7, 5)
		checkNotQuoted(t, key, 50, countedTo(maxBoot+1), 7, -1)
	}
	for _, key := range keysOfIssuers() {
		for _, device := range noDevices() {
			checkNotQuoted(t, key, device, log, 7, 5)
			checkNotQuoted(t, key, device, nil, 0, 0)
			checkNotQuoted(t, key, device, []int{100}, 7, maxTime+1)
		}
		for _, wrong := range noLogs() {
			checkNotQuoted(t, key, 20, wrong, 7, 5)
			checkNotQuoted(t, key, 29, wrong, -1, maxTime)
			checkNotQuoted(t, key, 20, wrong, 7, -1)
		}
		for _, at := range noTimes() {
			checkNotQuoted(t, key, 20, log, 7, at)
			checkNotQuoted(t, key, 20, nil, 0, at)
			checkNotQuoted(t, key, 19, log, 7, at)
		}
	}
}

func TestCheckQuote(t *testing.T) {
	log := []int{3, 0, 99}
	q := impl.Quote{Device: 20, Register: 1125636268, Nonce: 7, At: 5, Mark: 1072374154}
	for _, c := range []struct {
		key             int
		q               impl.Quote
		log             []int
		nonce, now, age int
		want            bool
	}{
		{200, q, log, 7, 8, 3, true},
		{200, q, log, 7, 4, 3, false},
		{200, q, log, 7, 5, 3, true},
		{200, q, log, 7, 6, 3, true},
		{200, q, log, 7, 9, 3, false},
		{200, q, log, 7, 5, 0, true},
		{200, q, log, 7, 6, 0, false},
		{200, q, log, 7, 4, 0, false},
		{200, q, log, 7, 5, -1, false},
		{200, q, log, 7, 6, -1, false},
		{200, q, log, 7, 4, -1, false},
		{200, q, log, 7, 5, math.MinInt, false},
		{200, q, log, 7, maxTime, maxTime - 5, true},
		{200, q, log, 7, maxTime, maxTime - 6, false},
		{200, q, log, 7, maxTime, maxTime, true},
		{200, q, log, 7, maxTime, maxTime + 1, true},
		{200, q, log, 7, 8, math.MaxInt, true},
		{200, q, log, 7, maxTime + 1, math.MaxInt, false},
		{200, q, log, 7, -1, math.MaxInt, false},
		{200, q, log, 7, math.MinInt, math.MaxInt, false},
		{200, q, log, 7, math.MaxInt, math.MaxInt, false},
		{201, q, log, 7, 8, 3, false},
		{199, q, log, 7, 8, 3, false},
		{0, q, log, 7, 8, 3, false},
		{-200, q, log, 7, 8, 3, false},
		{200 + modulus, q, log, 7, 8, 3, false},
		{200, q, log, 8, 8, 3, false},
		{200, q, log, 6, 8, 3, false},
		{200, q, log, -7, 8, 3, false},
		{200, q, log, 7 + modulus, 8, 3, false},
		{200, q, nil, 7, 8, 3, false},
		{200, q, log[:2], 7, 8, 3, false},
		{200, q, log[1:], 7, 8, 3, false},
		{200, q, []int{3, 0, 99, 0}, 7, 8, 3, false},
		{200, q, []int{0, 3, 0, 99}, 7, 8, 3, false},
		{200, q, []int{0, 3, 99}, 7, 8, 3, false},
		{200, q, []int{3, 0, 98}, 7, 8, 3, false},
		{200, q, []int{3 + modulus, 0, 99}, 7, 8, 3, false},
		{200, impl.Quote{}, log, 7, 8, 3, false},
		{200, impl.Quote{}, log, 0, 0, 0, false},
		{200, impl.Quote{}, nil, 0, 0, 0, false},
		{200, impl.Quote{}, nil, 0, 3, 3, false},
		{0, impl.Quote{}, nil, 0, 0, 0, false},
		{0, impl.Quote{}, countedTo(maxBoot + 1), 0, 0, maxTime, false},
	} {
		checkGood(t, c.key, c.q, c.log, c.nonce, c.now, c.age, c.want)
	}
}

func TestCheckQuoteAtEveryAge(t *testing.T) {
	log := countedTo(maxBoot)
	for _, at := range []int{0, 1, 5, 5000, maxTime - 1, maxTime} {
		q := quoteOf(77, 25, log, 3, at)
		for _, now := range append(timesAround(impl.Cert{From: at, Until: at + 20}), noTimes()...) {
			ages := append(agesAround(), now-at-1, now-at, now-at+1)
			for _, age := range ages {
				want := isOneOfTheTimes(now) && at <= now && now-at <= age
				checkGood(t, 77, q, log, 3, now, age, want)
				checkGood(t, 77, q, log[1:], 3, now, age, false)
			}
		}
	}
}

// The promise: no other log passes for the one that was measured.
func TestAQuoteIsGoodForItsLogOnly(t *testing.T) {
	for _, log := range someLogs() {
		q := quoteOf(200, 20, log, 7, 5)
		checkGood(t, 200, q, log, 7, 5, 3, true)
		for _, other := range slices.Concat(changedLogs(log), someLogs(), noLogs()) {
			checkGood(t, 200, q, other, 7, 5, 3, slices.Equal(other, log))
		}
	}
}

func TestAQuoteIsGoodForNoOrderButItsOwn(t *testing.T) {
	log := []int{0, 4, 50, 98, 99}
	q := quoteOf(9, 22, log, 1, 0)
	for _, order := range orders(log) {
		checkGood(t, 9, q, order, 1, 0, 0, slices.Equal(order, log))
	}
}

// Nothing may stand behind the measured elements, in the argument or in its spare capacity.
func TestLogsWithOneMoreElement(t *testing.T) {
	for n := range maxBoot + 1 {
		log := countedTo(maxBoot + 1)
		q := quoteOf(200, 20, log[:n], 7, 5)
		for m := range maxBoot + 2 {
			checkGood(t, 200, q, log[:m], 7, 5, 0, m == n)
		}
		for m := -50; m <= 150; m++ {
			checkGood(t, 200, q, with(log[:n], n, m), 7, 5, 0, false)
		}
	}
}

// With each part changed, and everything else as it was: also for its own nonce and at its own times. The modulus in a nonce does not change the mark.
func TestChangedQuotesAreNotGood(t *testing.T) {
	for i, log := range someLogs() {
		q := quoteOf(200, 20+i%10, log, 7, 5)
		for _, d := range []int{1, -1, 2, -2, 5, -5, -7, 9, 10, -10, 1000, modulus, -modulus, modulus + 1, 1 << 32, math.MinInt} {
			for part, other := range changedQuotes(q, d) {
				isMarked := part == 2 && d%modulus == 0
				for _, now := range []int{5, 6, other.At, other.At + 1} {
					checkGood(t, 200, other, log, 7, now, math.MaxInt, false)
					checkGood(t, 200, other, log, other.Nonce, now, math.MaxInt, isMarked && now >= 5)
				}
			}
		}
		for _, m := range noAnswersBeside(q.Mark) {
			other := q
			other.Mark = m
			checkGood(t, 200, other, log, 7, 5, 3, false)
		}
	}
}

// Of two quotes, each part can be changed for that of the other one, and no such mixture is good.
func TestMixedQuotesAreNotGood(t *testing.T) {
	logs := [][]int{{3, 0, 99}, {3, 0, 99, 0}}
	x := quoteOf(200, 20, logs[0], 7, 5)
	y := quoteOf(200, 21, logs[1], 8, 6)
	for set := range 1 << 5 {
		z := impl.Quote{
			Device:   either(set, 0, x.Device, y.Device),
			Register: either(set, 1, x.Register, y.Register),
			Nonce:    either(set, 2, x.Nonce, y.Nonce),
			At:       either(set, 3, x.At, y.At),
			Mark:     either(set, 4, x.Mark, y.Mark),
		}
		for i, log := range logs {
			for j, nonce := range []int{7, 8} {
				want := i == j && (z == x && i == 0 || z == y && i == 1)
				checkGood(t, 200, z, log, nonce, 6, 1, want)
			}
		}
	}
}

// A mark that is right does not help where the register is that of another log.
func TestRightMarksOfOtherRegisters(t *testing.T) {
	log := []int{3, 0, 99}
	for _, d := range []int{1, -1, modulus, -modulus, 1 << 32, -foldedRegister(log)} {
		q := quoteOf(200, 20, log, 7, 5)
		q.Register += d
		checkGood(t, 200, quoteWithMark(200, q), log, 7, 5, 3, false)
	}
	for _, other := range changedLogs(log) {
		q := quoteOf(200, 20, other, 7, 5)
		checkGood(t, 200, q, log, 7, 5, 3, q.Register == foldedRegister(log))
		checkGood(t, 200, q, other, 7, 5, 3, slices.Min(other) >= 0 && slices.Max(other) <= 99)
	}
}

// A quote that MakeQuote does not make is not good, whatever its mark.
func TestRightMarksOfWhatIsNoQuote(t *testing.T) {
	log := []int{3, 0, 99}
	for _, key := range noKeysOfIssuers() {
		checkGood(t, key, quoteOf(key, 20, log, 7, 5), log, 7, 5, 3, false)
		checkGood(t, key, impl.Quote{}, log, 0, 0, 3, false)
	}
	for _, device := range noDevices() {
		checkGood(t, 200, quoteOf(200, device, log, 7, 5), log, 7, 5, 3, false)
	}
	for _, wrong := range noLogs() {
		checkGood(t, 200, quoteOf(200, 20, wrong, 7, 5), wrong, 7, 5, 3, false)
		checkGood(t, 200, impl.Quote{}, wrong, 0, 0, 3, false)
	}
	for _, at := range noTimes() {
		for _, now := range []int{at, at + 1, 0, 5, maxTime} {
			checkGood(t, 200, quoteOf(200, 20, log, 7, at), log, 7, now, math.MaxInt, false)
		}
	}
	for _, log := range someLogs() {
		for _, now := range []int{0, 1, 5} {
			checkGood(t, 200, impl.Quote{}, log, 0, now, maxTime, false)
			checkGood(t, 200, quoteWithMark(200, impl.Quote{Register: foldedRegister(log)}), log, 0, now, maxTime, false)
		}
	}
}

func TestQuotesUnderAnotherKey(t *testing.T) {
	log := []int{3, 0, 99}
	for _, key := range keysOfIssuers() {
		q := quoteOf(key, 20, log, 7, 5)
		for _, other := range slices.Concat(keysOfIssuers(), noKeysOfIssuers(), []int{key - 1, key + 1, -key, key + modulus, key - modulus}) {
			checkGood(t, other, q, log, 7, 5, 3, other == key)
		}
	}
}

// Nonces with the same hash make the same mark, but not the same quote.
func TestQuotesForAnotherNonce(t *testing.T) {
	log := countedTo(3)
	for _, nonce := range nonces() {
		q := quoteOf(9, 29, log, nonce, maxTime)
		for _, other := range append(nonces(), nonce-1, nonce+1, nonce+modulus, nonce-modulus) {
			checkGood(t, 9, q, log, other, maxTime, 0, other == nonce)
		}
	}
}

func TestIsPrefixLog(t *testing.T) {
	log := []int{3, 0, 99}
	for _, c := range []struct {
		a, b []int
		want bool
	}{
		{nil, nil, true},
		{nil, []int{}, true},
		{[]int{}, nil, true},
		{[]int{}, []int{}, true},
		{nil, log, true},
		{[]int{}, log, true},
		{log, nil, false},
		{log, []int{}, false},
		{[]int{0}, nil, false},
		{nil, []int{0}, true},
		{log, log, true},
		{log[:1], log, true},
		{log[:2], log, true},
		{log, log[:2], false},
		{log, log[:1], false},
		{log, log[:0], false},
		{log[1:], log, false},
		{log, log[1:], false},
		{[]int{4}, log, false},
		{[]int{3, 1}, log, false},
		{[]int{0, 3}, log, false},
		{[]int{3, 0, 98}, log, false},
		{[]int{4, 0, 99}, log, false},
		{log, []int{3, 0, 99, 0}, true},
		{[]int{3, 0, 99, 0}, log, false},
		{log, []int{0, 3, 0, 99}, false},
		{countedTo(maxBoot), countedTo(maxBoot), true},
		{countedTo(maxBoot), countedTo(maxBoot + 1), true},
		{countedTo(maxBoot + 1), countedTo(maxBoot), false},
		{countedTo(100), countedTo(100), true},
		{countedTo(99), countedTo(100), true},
		{countedTo(100), countedTo(99), false},
		{[]int{-1}, []int{-1, 100}, true},
		{[]int{-1, 100}, []int{-1}, false},
		{[]int{-1, 100}, []int{-1, 100}, true},
		{[]int{math.MinInt}, []int{math.MinInt, math.MaxInt}, true},
		{[]int{math.MinInt}, []int{math.MaxInt, math.MinInt}, false},
		// Their registers are the same.
		{[]int{0}, []int{modulus}, false},
		{[]int{modulus}, []int{0, 1}, false},
	} {
		if got := impl.IsPrefixLog(c.a, c.b); got != c.want {
			t.Errorf("IsPrefixLog(%v, %v) = %v", c.a, c.b, got)
		}
	}
}

// What is expected is what strings say.
func TestIsPrefixLogOfEveryTwoSmallLogs(t *testing.T) {
	texts := []string{""}
	for i := 0; i < len(texts); i++ {
		if len(texts[i]) < 4 {
			texts = append(texts, texts[i]+"0", texts[i]+"1", texts[i]+"2")
		}
	}
	logOf := func(text string) []int {
		log := []int{}
		for _, c := range text {
			log = append(log, int(c-'0'))
		}
		return log
	}
	for _, a := range texts {
		for _, b := range texts {
			if got, want := impl.IsPrefixLog(logOf(a), logOf(b)), strings.HasPrefix(b, a); got != want {
				t.Errorf("IsPrefixLog of %q and %q = %v", a, b, got)
			}
		}
	}
}

// The shorter log has the rest of the longer one in its spare capacity.
func TestIsPrefixLogOfEachPart(t *testing.T) {
	for _, log := range slices.Concat(someLogs(), noLogs(), someSequences()) {
		for n := range len(log) + 1 {
			if !impl.IsPrefixLog(log[:n], log) {
				t.Errorf("%v does not begin with %d of its elements", log, n)
			}
			if got := impl.IsPrefixLog(log, log[:n]); got != (n == len(log)) {
				t.Errorf("IsPrefixLog(%v, %v) = %v", log, log[:n], got)
			}
		}
		for _, m := range []int{0, 3, 99, -1, 100} {
			more := with(log, len(log), m)
			if !impl.IsPrefixLog(log, more) || impl.IsPrefixLog(more, log) {
				t.Errorf("%v and %v", log, more)
			}
		}
	}
}

func TestIsPrefixLogWithEachElementChanged(t *testing.T) {
	for _, log := range append(someLogs(), countedTo(20)) {
		for place := range log {
			for _, d := range []int{1, -1, modulus, 1 << 32, math.MinInt} {
				other := slices.Clone(log)
				other[place] += d
				for n := range len(log) + 1 {
					if got := impl.IsPrefixLog(other[:n], log); got != (n <= place) {
						t.Errorf("IsPrefixLog(%v, %v) = %v", other[:n], log, got)
					}
					if got := impl.IsPrefixLog(log[:n], other); got != (n <= place) {
						t.Errorf("IsPrefixLog(%v, %v) = %v", log[:n], other, got)
					}
				}
			}
		}
	}
}

func TestLogsAreLeftUntouched(t *testing.T) {
	logs := slices.Concat(someLogs(), noLogs())
	for _, want := range logs {
		log := sparedInts(want)
		impl.RegisterOf(log)
		impl.IsLog(log)
		for _, key := range []int{0, 200} {
			q, _ := impl.MakeQuote(key, 20, log, 7, 5)
			impl.CheckQuote(key, q, log, 7, 5, 3)
			impl.CheckQuote(key, quoteOf(200, 20, want, 7, 5), log, 7, 5, 3)
		}
		impl.IsPrefixLog(log, log)
		if !areUntouched(log, want) {
			t.Errorf("%v became %v", want, log[:len(log)+16])
		}
		for _, other := range logs {
			a, b := sparedInts(want), sparedInts(other)
			impl.IsPrefixLog(a, b)
			if !areUntouched(a, want) || !areUntouched(b, other) {
				t.Errorf("%v and %v became %v and %v", want, other, a[:len(a)+16], b[:len(b)+16])
			}
		}
	}
}
