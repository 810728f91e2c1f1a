package tests

import (
	"maps"
	"math"
	"slices"
	"testing"

	"loop.example/g00594/impl"
)

const maxRevoked = 40

// revoked is the list of these pairs of a Serial and an At.
func revoked(pairs ...[2]int) []impl.Revoked {
	l := []impl.Revoked{}
	for _, p := range pairs {
		l = append(l, impl.Revoked{Serial: p[0], At: p[1]})
	}
	return l
}

// tensRevoked holds the first n multiples of 10, so that there is room between them; each is revoked 100 times behind its Serial.
func tensRevoked(n int) []impl.Revoked {
	l := []impl.Revoked{}
	for i := 1; i <= n; i++ {
		l = append(l, impl.Revoked{Serial: 10 * i, At: 10*i + 100})
	}
	return l
}

func someRevoked() [][]impl.Revoked {
	return [][]impl.Revoked{
		nil,
		{},
		revoked([2]int{1, 0}),
		revoked([2]int{9999, maxTime}),
		revoked([2]int{500, 20}),
		revoked([2]int{1, maxTime}, [2]int{2, 0}),
		revoked([2]int{9998, 5}, [2]int{9999, 5}),
		revoked([2]int{1, 3}, [2]int{5, 2}, [2]int{9999, 1}),
		tensRevoked(5),
		tensRevoked(maxRevoked - 1),
		tensRevoked(maxRevoked),
	}
}

// badRevoked holds elements that are not valid, each for one reason only.
func badRevoked() []impl.Revoked {
	l := []impl.Revoked{}
	for _, serial := range noSerials() {
		l = append(l, impl.Revoked{Serial: serial, At: 5})
	}
	for _, at := range noTimes() {
		l = append(l, impl.Revoked{Serial: 5, At: at})
	}
	return l
}

// noRevoked holds lists that are not valid, most of them for one reason only.
func noRevoked() [][]impl.Revoked {
	reversed := tensRevoked(maxRevoked)
	slices.Reverse(reversed)
	lists := [][]impl.Revoked{
		{{}},
		revoked([2]int{2, 5}, [2]int{1, 5}),
		revoked([2]int{9999, 5}, [2]int{1, 6}),
		revoked([2]int{1, 5}, [2]int{3, 5}, [2]int{2, 5}),
		revoked([2]int{2, 5}, [2]int{1, 5}, [2]int{3, 5}),
		revoked([2]int{7, 5}, [2]int{7, 5}),
		revoked([2]int{7, 5}, [2]int{7, 4}),
		revoked([2]int{7, 4}, [2]int{7, 5}),
		revoked([2]int{1, 5}, [2]int{7, 5}, [2]int{7, 5}, [2]int{9, 5}),
		revoked([2]int{7, 5}, [2]int{8, 5}, [2]int{7, 5}),
		revoked([2]int{0, 5}, [2]int{7, 5}),
		revoked([2]int{7, 5}, [2]int{10000, 5}),
		revoked([2]int{7, -1}, [2]int{8, 5}),
		revoked([2]int{7, 5}, [2]int{8, maxTime + 1}),
		revoked([2]int{-1, -1}),
		tensRevoked(maxRevoked + 1),
		tensRevoked(100),
		append(tensRevoked(maxRevoked), impl.Revoked{Serial: 10 * maxRevoked, At: 5}),
		append(tensRevoked(maxRevoked), impl.Revoked{Serial: 10, At: 5}),
		append(tensRevoked(maxRevoked-1), impl.Revoked{Serial: 10000, At: 5}),
		slices.Repeat(revoked([2]int{7, 5}), maxRevoked),
		slices.Repeat(revoked([2]int{7, 5}), 100),
		reversed,
	}
	for _, x := range badRevoked() {
		lists = append(lists, []impl.Revoked{x})
	}
	return lists
}

// earliest keeps the earliest time of each Serial.
type earliest map[int]int

func earliestOf(lists ...[]impl.Revoked) earliest {
	e := earliest{}
	for _, x := range slices.Concat(lists...) {
		e.add(x.Serial, x.At)
	}
	return e
}

func (e earliest) add(serial, at int) bool {
	if serial < 1 || serial > 9999 || at < 0 || at > maxTime {
		return false
	}
	old, isKnown := e[serial]
	if !isKnown && len(e) == maxRevoked {
		return false
	}
	if !isKnown || at < old {
		e[serial] = at
	}
	return true
}

func (e earliest) list() []impl.Revoked {
	l := []impl.Revoked{}
	for _, serial := range slices.Sorted(maps.Keys(e)) {
		l = append(l, impl.Revoked{Serial: serial, At: e[serial]})
	}
	return l
}

// drawnRevoked draws count elements of so many Serials, with few times, some of them not valid.
func drawnRevoked(seed uint32, count, serials int) []impl.Revoked {
	draw := func(n int) int {
		seed = seed*1664525 + 1013904223
		return int(seed>>16) % n
	}
	l := make([]impl.Revoked, count)
	for i := range l {
		l[i] = impl.Revoked{Serial: draw(serials), At: draw(20) - 1}
	}
	return l
}

// smallLists holds each valid list of the Serials 1, 2 and 3 and the times 0, 1 and 2.
func smallLists() [][]impl.Revoked {
	var lists [][]impl.Revoked
	for code := range 4 * 4 * 4 {
		l := []impl.Revoked{}
		for i, at := range []int{code % 4, code / 4 % 4, code / 16} {
			if at < 3 {
				l = append(l, impl.Revoked{Serial: i + 1, At: at})
			}
		}
		lists = append(lists, l)
	}
	return lists
}

func sparedRevoked(l []impl.Revoked) []impl.Revoked {
	return withSpare(l, impl.Revoked{Serial: mark, At: mark})
}

func areRevokedUntouched(l []impl.Revoked, want []impl.Revoked) bool {
	return isWithSpare(l, want, impl.Revoked{Serial: mark, At: mark})
}

// spoilRevoked changes everything that a result may reach.
func spoilRevoked(l []impl.Revoked) {
	l = l[:cap(l)]
	for i := range l {
		l[i].Serial += 1000
		l[i].At -= 1000
	}
}

func checkAdded(t *testing.T, l []impl.Revoked, serial, at int, want []impl.Revoked, wantOk bool) {
	t.Helper()
	got, ok := impl.AddRevoked(l, serial, at)
	if ok != wantOk || !slices.Equal(got, want) {
		t.Errorf("AddRevoked(%v, %d, %d) = %v, %v, want %v, %v", l, serial, at, got, ok, want, wantOk)
	}
}

func checkNotAdded(t *testing.T, l []impl.Revoked, serial, at int) {
	t.Helper()
	checkAdded(t, l, serial, at, l, false)
}

func checkMerged(t *testing.T, a, b, want []impl.Revoked) {
	t.Helper()
	if got := impl.MergeRevoked(a, b); !slices.Equal(got, want) {
		t.Errorf("MergeRevoked(%v, %v) = %v, want %v", a, b, got, want)
	}
}

func TestMaxRevoked(t *testing.T) {
	if impl.MaxRevoked != maxRevoked {
		t.Errorf("MaxRevoked is %d", impl.MaxRevoked)
	}
}

func TestAreRevoked(t *testing.T) {
	for _, l := range append(someRevoked(), smallLists()...) {
		if !impl.AreRevoked(l) {
			t.Errorf("%v is not valid", l)
		}
	}
	for _, l := range noRevoked() {
		if impl.AreRevoked(l) {
			t.Errorf("%v is valid", l)
		}
	}
}

func TestRevokedListsOfEveryLength(t *testing.T) {
	for n := 0; n <= 100; n++ {
		if got := impl.AreRevoked(tensRevoked(n)); got != (n <= maxRevoked) {
			t.Errorf("AreRevoked of %d elements = %v", n, got)
		}
	}
}

func TestEverySerialAndEveryTimeOfARevocation(t *testing.T) {
	check := func(l []impl.Revoked, want bool) {
		if got := impl.AreRevoked(l); got != want {
			t.Errorf("AreRevoked(%v) = %v", l, got)
		}
	}
	for serial := -10; serial <= 10100; serial++ {
		isSerial := 1 <= serial && serial <= 9999
		check(revoked([2]int{serial, 5}), isSerial)
		check(revoked([2]int{4000, 5}, [2]int{serial, 5}), isSerial && serial > 4000)
		check(revoked([2]int{serial, 5}, [2]int{4000, 5}), isSerial && serial < 4000)
	}
	for at := -10; at <= maxTime+10; at++ {
		check(revoked([2]int{1, at}), isOneOfTheTimes(at))
		check(revoked([2]int{1, at}, [2]int{2, 5}), isOneOfTheTimes(at))
		check(revoked([2]int{1, 5}, [2]int{2, at}), isOneOfTheTimes(at))
	}
}

// A list is spoiled at each place in turn.
func TestRevokedListsThatAreSpoiledAtOnePlace(t *testing.T) {
	list := tensRevoked(maxRevoked - 1)
	for place, x := range list {
		for _, bad := range badRevoked() {
			l := slices.Clone(list)
			if bad.Serial == 5 {
				bad.Serial = x.Serial
			}
			l[place] = bad
			if impl.AreRevoked(l) {
				t.Errorf("with %v at %d it is valid", bad, place)
			}
		}
		for other := 0; other <= len(list); other++ {
			for _, at := range []int{x.At, x.At - 1, x.At + 1} {
				if impl.AreRevoked(with(list, other, impl.Revoked{Serial: x.Serial, At: at})) {
					t.Errorf("with %v twice it is valid", x)
				}
			}
		}
		for other := range list {
			l := slices.Clone(list)
			l[place], l[other] = l[other], l[place]
			if impl.AreRevoked(l) != (place == other) {
				t.Errorf("AreRevoked with %d and %d exchanged = %v", place, other, impl.AreRevoked(l))
			}
		}
	}
}

func TestAddRevokedToTheEmptyList(t *testing.T) {
	for _, empty := range [][]impl.Revoked{nil, {}} {
		for _, serial := range []int{1, 2, 500, 9998, 9999} {
			for _, at := range []int{0, 1, 500, maxTime - 1, maxTime} {
				checkAdded(t, empty, serial, at, revoked([2]int{serial, at}), true)
			}
		}
		for _, x := range badRevoked() {
			checkNotAdded(t, empty, x.Serial, x.At)
		}
	}
}

// Each element of each list is taken out of it and added again: in front, between two and behind.
func TestAddRevokedAtEveryPlace(t *testing.T) {
	for n := 1; n <= maxRevoked; n++ {
		want := tensRevoked(n)
		for place, x := range want {
			checkAdded(t, without(want, place), x.Serial, x.At, want, true)
		}
	}
	for _, l := range [][]impl.Revoked{tensRevoked(1), tensRevoked(5), tensRevoked(maxRevoked - 1)} {
		checkAdded(t, l, 1, 7, with(l, 0, impl.Revoked{Serial: 1, At: 7}), true)
		checkAdded(t, l, 9, 0, with(l, 0, impl.Revoked{Serial: 9, At: 0}), true)
		checkAdded(t, l, 11, maxTime, with(l, 1, impl.Revoked{Serial: 11, At: maxTime}), true)
		checkAdded(t, l, 9999, 7, with(l, len(l), impl.Revoked{Serial: 9999, At: 7}), true)
	}
}

func TestAddRevokedInAnyOrder(t *testing.T) {
	want := revoked([2]int{1, 9}, [2]int{2, 0}, [2]int{70, 70}, [2]int{300, maxTime}, [2]int{9999, 4})
	for _, order := range orders([]int{0, 1, 2, 3, 4}) {
		l, ok := []impl.Revoked(nil), false
		for _, i := range order {
			if l, ok = impl.AddRevoked(l, want[i].Serial, want[i].At); !ok {
				t.Errorf("in the order %v, %v was not added", order, want[i])
			}
		}
		if !slices.Equal(l, want) {
			t.Errorf("in the order %v: %v", order, l)
		}
	}
}

func TestOfTwoTimesTheEarlierOneRemains(t *testing.T) {
	for _, n := range []int{1, 2, 3, maxRevoked - 1, maxRevoked} {
		list := tensRevoked(n)
		for place, x := range list {
			for _, at := range []int{0, 1, x.At - 100, x.At - 2, x.At - 1, x.At, x.At + 1, x.At + 2, x.At + 100, maxTime - 1, maxTime} {
				want := slices.Clone(list)
				want[place].At = min(at, x.At)
				checkAdded(t, list, x.Serial, at, want, true)
			}
		}
	}
}

func TestOfAnyTimesTheEarliestOneRemains(t *testing.T) {
	times := []int{0, 1, 2, 7, maxTime - 1, maxTime}
	for _, i := range times {
		for _, j := range times {
			for _, k := range times {
				got := impl.MergeRevoked(nil, revoked([2]int{8, i}, [2]int{8, j}, [2]int{8, k}))
				if !slices.Equal(got, revoked([2]int{8, min(i, j, k)})) {
					t.Errorf("of %d, %d and %d remains %v", i, j, k, got)
				}
			}
		}
	}
}

func TestAddRevokedThatIsNotValid(t *testing.T) {
	for _, l := range someRevoked() {
		for _, serial := range noSerials() {
			for _, at := range []int{0, 5, maxTime, -1, maxTime + 1} {
				checkNotAdded(t, l, serial, at)
			}
		}
		for _, at := range noTimes() {
			for _, serial := range []int{1, 2, 7, 500, 9998, 9999, 0, 10000} {
				checkNotAdded(t, l, serial, at)
			}
			// The list would stay valid with the time that it has.
			for _, x := range l {
				checkNotAdded(t, l, x.Serial, at)
			}
		}
	}
}

func TestAddRevokedWithEverySerialAndEveryTime(t *testing.T) {
	l := revoked([2]int{30, 400}, [2]int{5000, 600})
	for serial := -10; serial <= 10100; serial++ {
		e := earliestOf(l)
		ok := e.add(serial, 500)
		checkAdded(t, l, serial, 500, e.list(), ok)
	}
	for at := -10; at <= maxTime+10; at++ {
		for _, serial := range []int{30, 31} {
			want, ok := slices.Clone(l), isOneOfTheTimes(at)
			if ok && serial == 30 {
				want[0].At = min(at, 400)
			}
			if ok && serial == 31 {
				want = with(l, 1, impl.Revoked{Serial: 31, At: at})
			}
			checkAdded(t, l, serial, at, want, ok)
		}
	}
}

func TestAddRevokedToAFullList(t *testing.T) {
	full := tensRevoked(maxRevoked)
	isThere := func(serial int) bool {
		return serial%10 == 0 && 10 <= serial && serial <= 10*maxRevoked
	}
	for serial := range 10*maxRevoked + 100 {
		for _, at := range []int{0, serial + 99, serial + 100, serial + 101, maxTime} {
			if !isThere(serial) {
				checkNotAdded(t, full, serial, at)
				continue
			}
			want := slices.Clone(full)
			want[serial/10-1].At = min(at, serial+100)
			checkAdded(t, full, serial, at, want, true)
		}
	}
	for _, x := range badRevoked() {
		checkNotAdded(t, full, x.Serial, x.At)
	}
}

func TestAddRevokedToAListThatIsNotValid(t *testing.T) {
	for _, l := range noRevoked() {
		for _, x := range slices.Concat(l, tensRevoked(3), badRevoked()) {
			for _, at := range []int{x.At, 0, 5, maxTime} {
				checkNotAdded(t, l, x.Serial, at)
			}
		}
		for _, serial := range []int{1, 2, 3, 7, 8, 9999} {
			checkNotAdded(t, l, serial, 3)
		}
	}
}

func TestRevokedAt(t *testing.T) {
	l := revoked([2]int{1, maxTime}, [2]int{3, 7}, [2]int{5, 0}, [2]int{9999, 20})
	for _, c := range []struct {
		l      []impl.Revoked
		serial int
		want   int
	}{
		{l, 1, maxTime},
		{l, 3, 7},
		{l, 5, 0},
		{l, 9999, 20},
		{l, 2, -1},
		{l, 4, -1},
		{l, 6, -1},
		{l, 9998, -1},
		{l, 0, -1},
		{l, 10000, -1},
		{l, -1, -1},
		{l, -3, -1},
		{l, 1<<32 + 3, -1},
		{l, math.MinInt, -1},
		{l, math.MaxInt, -1},
		{nil, 1, -1},
		{nil, 0, -1},
		{[]impl.Revoked{}, 1, -1},
		{[]impl.Revoked{}, -1, -1},
		{[]impl.Revoked{{}}, 0, 0},
		{[]impl.Revoked{{}}, 1, -1},
		// The first element counts, also in a list that is not valid.
		{revoked([2]int{7, 5}, [2]int{7, 4}), 7, 5},
		{revoked([2]int{7, 4}, [2]int{7, 5}), 7, 4},
		{revoked([2]int{7, 0}, [2]int{7, 5}), 7, 0},
		{revoked([2]int{7, -1}, [2]int{7, 5}), 7, -1},
		{revoked([2]int{7, -9}, [2]int{7, 5}), 7, -9},
		{revoked([2]int{7, maxTime + 1}, [2]int{7, 5}), 7, maxTime + 1},
		{revoked([2]int{9, 5}, [2]int{7, 4}, [2]int{8, 3}, [2]int{7, 2}, [2]int{9, 1}), 7, 4},
		{revoked([2]int{9, 5}, [2]int{7, 4}, [2]int{8, 3}, [2]int{7, 2}, [2]int{9, 1}), 8, 3},
		{revoked([2]int{9, 5}, [2]int{7, 4}, [2]int{8, 3}, [2]int{7, 2}, [2]int{9, 1}), 9, 5},
		{revoked([2]int{0, 5}, [2]int{-1, 6}, [2]int{10000, 7}), 0, 5},
		{revoked([2]int{0, 5}, [2]int{-1, 6}, [2]int{10000, 7}), -1, 6},
		{revoked([2]int{0, 5}, [2]int{-1, 6}, [2]int{10000, 7}), 10000, 7},
		{revoked([2]int{1, math.MinInt}, [2]int{2, math.MaxInt}), 1, math.MinInt},
		{revoked([2]int{1, math.MinInt}, [2]int{2, math.MaxInt}), 2, math.MaxInt},
		{tensRevoked(100), 1000, 1100},
	} {
		if got := impl.RevokedAt(c.l, c.serial); got != c.want {
			t.Errorf("RevokedAt(%v, %d) = %d, want %d", c.l, c.serial, got, c.want)
		}
	}
}

// firstAt goes through the list for the first element, which need not be there.
func firstAt(l []impl.Revoked, serial int) int {
	for _, x := range l {
		if x.Serial == serial {
			return x.At
		}
	}
	return -1
}

// Every list, valid or not, is asked for its Serials and those next to them.
func TestLookUpsInAnyList(t *testing.T) {
	for _, l := range slices.Concat(someRevoked(), noRevoked(), [][]impl.Revoked{drawnRevoked(1, 50, 20), drawnRevoked(2, 200, 50)}) {
		serials := append(noSerials(), 1, 2, 3, 4, 5, 6, 7, 8, 9, 11, 401, 9998, 9999)
		for _, x := range l {
			serials = append(serials, x.Serial-1, x.Serial, x.Serial+1)
		}
		for _, serial := range serials {
			at := firstAt(l, serial)
			if got := impl.RevokedAt(l, serial); got != at {
				t.Errorf("RevokedAt(%v, %d) = %d, want %d", l, serial, got, at)
			}
			for _, now := range append(noTimes(), at-1, at, at+1, 0, 1, 5, maxTime-1, maxTime) {
				if got, want := impl.IsRevoked(l, serial, now), at >= 0 && at <= now; got != want {
					t.Errorf("IsRevoked(%v, %d, %d) = %v", l, serial, now, got)
				}
			}
		}
	}
}

func TestIsRevoked(t *testing.T) {
	l := revoked([2]int{1, maxTime}, [2]int{3, 7}, [2]int{5, 0})
	for _, c := range []struct {
		l           []impl.Revoked
		serial, now int
		want        bool
	}{
		{l, 3, 5, false},
		{l, 3, 6, false},
		{l, 3, 7, true},
		{l, 3, 8, true},
		{l, 3, maxTime, true},
		{l, 3, maxTime + 1, true},
		{l, 3, math.MaxInt, true},
		{l, 3, 0, false},
		{l, 3, -1, false},
		{l, 3, math.MinInt, false},
		{l, 5, -1, false},
		{l, 5, 0, true},
		{l, 5, 1, true},
		{l, 1, maxTime - 1, false},
		{l, 1, maxTime, true},
		{l, 1, maxTime + 1, true},
		{l, 4, 99, false},
		{l, 4, -1, false},
		{l, 4, 0, false},
		{l, 0, 99, false},
		{l, 10000, 99, false},
		{l, 4, math.MaxInt, false},
		{nil, 3, 7, false},
		{nil, 3, -1, false},
		{[]impl.Revoked{}, 3, 7, false},
		{revoked([2]int{7, 5}, [2]int{7, 4}), 7, 4, false},
		{revoked([2]int{7, 5}, [2]int{7, 4}), 7, 5, true},
		{revoked([2]int{7, 4}, [2]int{7, 5}), 7, 4, true},
		{revoked([2]int{7, 4}, [2]int{7, 5}), 7, 3, false},
		{revoked([2]int{7, -1}, [2]int{7, 5}), 7, 9, false},
		{revoked([2]int{7, -1}), 7, -1, false},
		{revoked([2]int{7, -5}), 7, 9, false},
		{revoked([2]int{7, math.MinInt}), 7, math.MaxInt, false},
		{revoked([2]int{7, maxTime + 1}), 7, maxTime, false},
		{revoked([2]int{7, maxTime + 1}), 7, maxTime + 1, true},
		{revoked([2]int{0, 5}), 0, 5, true},
	} {
		if got := impl.IsRevoked(c.l, c.serial, c.now); got != c.want {
			t.Errorf("IsRevoked(%v, %d, %d) = %v", c.l, c.serial, c.now, got)
		}
	}
}

func TestMergeRevoked(t *testing.T) {
	a := revoked([2]int{3, 7}, [2]int{5, 8}, [2]int{9, 9})
	for _, c := range []struct{ a, b, want []impl.Revoked }{
		{nil, nil, nil},
		{nil, []impl.Revoked{}, nil},
		{a, nil, a},
		{a, []impl.Revoked{}, a},
		{nil, a, a},
		{[]impl.Revoked{}, a, a},
		{a, a, a},
		{a, revoked([2]int{1, 5}), revoked([2]int{1, 5}, [2]int{3, 7}, [2]int{5, 8}, [2]int{9, 9})},
		{a, revoked([2]int{4, 5}), revoked([2]int{3, 7}, [2]int{4, 5}, [2]int{5, 8}, [2]int{9, 9})},
		{a, revoked([2]int{9999, 5}), revoked([2]int{3, 7}, [2]int{5, 8}, [2]int{9, 9}, [2]int{9999, 5})},
		{a, revoked([2]int{3, 6}, [2]int{5, 8}, [2]int{9, 10}), revoked([2]int{3, 6}, [2]int{5, 8}, [2]int{9, 9})},
		{a, revoked([2]int{5, 2}, [2]int{6, 1}), revoked([2]int{3, 7}, [2]int{5, 2}, [2]int{6, 1}, [2]int{9, 9})},
		// What is not in order, or twice there, is added all the same.
		{a, revoked([2]int{6, 1}, [2]int{4, 2}), revoked([2]int{3, 7}, [2]int{4, 2}, [2]int{5, 8}, [2]int{6, 1}, [2]int{9, 9})},
		{nil, revoked([2]int{6, 1}, [2]int{4, 2}, [2]int{6, 0}, [2]int{4, 3}), revoked([2]int{4, 2}, [2]int{6, 0})},
		// What is not valid is left out, and what stands behind it is added.
		{a, revoked([2]int{0, 1}, [2]int{4, 2}), revoked([2]int{3, 7}, [2]int{4, 2}, [2]int{5, 8}, [2]int{9, 9})},
		{a, revoked([2]int{10000, 1}, [2]int{5, -1}, [2]int{3, maxTime + 1}, [2]int{5, 0}), revoked([2]int{3, 7}, [2]int{5, 0}, [2]int{9, 9})},
		{nil, revoked([2]int{1, -1}, [2]int{2, 0}, [2]int{3, maxTime}, [2]int{4, maxTime + 1}), revoked([2]int{2, 0}, [2]int{3, maxTime})},
		{nil, badRevoked(), nil},
		{a, badRevoked(), a},
	} {
		checkMerged(t, c.a, c.b, c.want)
	}
}

func TestMergeRevokedIntoItself(t *testing.T) {
	for _, l := range append(someRevoked(), smallLists()...) {
		checkMerged(t, l, l, l)
		checkMerged(t, nil, l, l)
		checkMerged(t, l, nil, l)
	}
	for _, l := range noRevoked() {
		checkMerged(t, l, l, l)
	}
}

func TestMergeRevokedIntoAFullList(t *testing.T) {
	full := tensRevoked(maxRevoked)
	checkMerged(t, full, revoked([2]int{1, 0}, [2]int{10, 9}, [2]int{11, 0}, [2]int{400, 499}, [2]int{9999, 0}), slices.Concat(revoked([2]int{10, 9}), full[1:39], revoked([2]int{400, 499})))
	checkMerged(t, full, revoked([2]int{1, 0}, [2]int{5, 0}), full)
	checkMerged(t, full, tensRevoked(maxRevoked+5), full)
	// The first one of b still has room; the next ones have not.
	checkMerged(t, full[1:], revoked([2]int{5, 3}, [2]int{10, 110}, [2]int{6, 3}, [2]int{5, 2}), with(full[1:], 0, impl.Revoked{Serial: 5, At: 2}))
	checkMerged(t, full[:39], revoked([2]int{0, 0}, [2]int{500, 3}, [2]int{400, 3}), with(full[:39], 39, impl.Revoked{Serial: 500, At: 3}))
	for n := 0; n <= maxRevoked; n++ {
		checkMerged(t, full[:n], tensRevoked(100), full)
		checkMerged(t, nil, slices.Concat(full[n:], full[:n], tensRevoked(100)), full)
	}
	backwards := tensRevoked(100)
	slices.Reverse(backwards)
	checkMerged(t, nil, backwards, tensRevoked(100)[60:])
}

func TestMergeRevokedIntoAListThatIsNotValid(t *testing.T) {
	for _, a := range noRevoked() {
		for _, b := range slices.Concat(someRevoked(), noRevoked()) {
			checkMerged(t, a, b, a)
		}
	}
}

func TestMergeRevokedOfAListThatIsNotValid(t *testing.T) {
	for _, a := range someRevoked() {
		for _, b := range noRevoked() {
			checkMerged(t, a, b, earliestOf(a, b).list())
		}
	}
}

func TestKnowsMore(t *testing.T) {
	l := revoked([2]int{3, 7}, [2]int{5, 0}, [2]int{9, maxTime})
	for _, c := range []struct {
		a, b []impl.Revoked
		want bool
	}{
		{nil, nil, true},
		{nil, []impl.Revoked{}, true},
		{[]impl.Revoked{}, nil, true},
		{l, nil, true},
		{l, []impl.Revoked{}, true},
		{nil, l, false},
		{[]impl.Revoked{}, l, false},
		{l, l, true},
		{l, l[:1], true},
		{l, l[1:], true},
		{l[:2], l, false},
		{l[1:], l, false},
		{l, revoked([2]int{3, 6}), false},
		{l, revoked([2]int{3, 7}), true},
		{l, revoked([2]int{3, 8}), true},
		{l, revoked([2]int{3, maxTime}), true},
		{l, revoked([2]int{5, 0}), true},
		{l, revoked([2]int{5, 1}), true},
		{l, revoked([2]int{9, maxTime - 1}), false},
		{l, revoked([2]int{9, maxTime}), true},
		{l, revoked([2]int{4, 7}), false},
		{l, revoked([2]int{4, maxTime}), false},
		{l, revoked([2]int{3, 7}, [2]int{4, maxTime}), false},
		{l, revoked([2]int{2, 7}, [2]int{3, 7}), false},
		{l, revoked([2]int{3, 8}, [2]int{5, 0}, [2]int{9, maxTime - 1}), false},
		{l, revoked([2]int{3, 6}, [2]int{5, 0}, [2]int{9, maxTime}), false},
		{l, revoked([2]int{3, 9}, [2]int{5, 9}, [2]int{9, maxTime}), true},
		// Lists that are not valid are taken as they are, of the first one the first element.
		{revoked([2]int{7, 5}, [2]int{7, 4}), revoked([2]int{7, 4}), false},
		{revoked([2]int{7, 4}, [2]int{7, 5}), revoked([2]int{7, 4}), true},
		{revoked([2]int{7, 5}), revoked([2]int{7, 5}, [2]int{7, 4}), false},
		{revoked([2]int{7, 5}), revoked([2]int{7, 4}, [2]int{7, 5}), false},
		{revoked([2]int{7, 4}), revoked([2]int{7, 4}, [2]int{7, 5}), true},
		{l, revoked([2]int{9, maxTime}, [2]int{5, 0}, [2]int{3, 7}), true},
		{revoked([2]int{9, maxTime}, [2]int{5, 0}, [2]int{3, 7}), l, true},
		{l, revoked([2]int{3, -1}), false},
		{l, revoked([2]int{5, -1}), false},
		{l, revoked([2]int{4, -1}), false},
		{l, revoked([2]int{3, math.MinInt}), false},
		{l, revoked([2]int{3, maxTime + 1}), true},
		{l, revoked([2]int{3, math.MaxInt}), true},
		{l, revoked([2]int{0, 5}), false},
		{l, revoked([2]int{10000, 5}), false},
		{revoked([2]int{0, 5}), revoked([2]int{0, 5}), true},
		{revoked([2]int{10000, 5}), revoked([2]int{10000, 6}), true},
		{revoked([2]int{3, -1}), revoked([2]int{3, -1}), false},
		{revoked([2]int{3, -1}), revoked([2]int{3, 5}), false},
		{revoked([2]int{3, -5}, [2]int{3, 1}), revoked([2]int{3, 5}), false},
		{revoked([2]int{3, maxTime + 1}), revoked([2]int{3, maxTime}), false},
		{revoked([2]int{3, maxTime + 1}), revoked([2]int{3, maxTime + 1}), true},
		{tensRevoked(100), tensRevoked(100), true},
		{tensRevoked(maxRevoked), tensRevoked(maxRevoked + 1), false},
		{tensRevoked(maxRevoked + 1), tensRevoked(maxRevoked), true},
	} {
		if got := impl.KnowsMore(c.a, c.b); got != c.want {
			t.Errorf("KnowsMore(%v, %v) = %v", c.a, c.b, got)
		}
	}
}

// Each element of a list is told earlier, at the same time, later, or not at all.
func TestKnowsMoreAtEveryPlace(t *testing.T) {
	list := tensRevoked(maxRevoked)
	for place, x := range list {
		for _, d := range []int{-2, -1, 0, 1, 2} {
			other := slices.Clone(list)
			other[place].At += d
			if got := impl.KnowsMore(list, other); got != (d >= 0) {
				t.Errorf("KnowsMore with %v changed by %d = %v", x, d, got)
			}
		}
		rest := without(list, place)
		if !impl.KnowsMore(list, rest) || impl.KnowsMore(rest, list) {
			t.Errorf("KnowsMore without %v", x)
		}
	}
}

// Small lists are told by the time of each Serial, with 3 where it has none.
func TestEveryTwoSmallLists(t *testing.T) {
	timesOf := func(l []impl.Revoked) [3]int {
		times := [3]int{3, 3, 3}
		for _, x := range l {
			times[x.Serial-1] = x.At
		}
		return times
	}
	for _, a := range smallLists() {
		for _, b := range smallLists() {
			merged := impl.MergeRevoked(a, b)
			if !impl.AreRevoked(merged) || !slices.Equal(merged, impl.MergeRevoked(b, a)) {
				t.Errorf("MergeRevoked(%v, %v) = %v", a, b, merged)
			}
			knowsMore := true
			x, y, z := timesOf(a), timesOf(b), timesOf(merged)
			for i := range x {
				knowsMore = knowsMore && x[i] <= y[i]
				if z[i] != min(x[i], y[i]) {
					t.Errorf("MergeRevoked(%v, %v) = %v", a, b, merged)
				}
			}
			if got := impl.KnowsMore(a, b); got != knowsMore {
				t.Errorf("KnowsMore(%v, %v) = %v", a, b, got)
			}
			if !impl.KnowsMore(merged, a) || !impl.KnowsMore(merged, b) {
				t.Errorf("%v knows less than %v or %v", merged, a, b)
			}
			if knowsMore && !slices.Equal(merged, a) {
				t.Errorf("MergeRevoked(%v, %v) = %v, although b is known", a, b, merged)
			}
		}
	}
}

// What is revoked at a time stays revoked then, whatever is added.
func TestRevocationsAreNeverForgotten(t *testing.T) {
	for seed := range uint32(20) {
		kept := earliest{}
		l := []impl.Revoked{}
		// With 30 Serials a list never becomes full; with 80 it does.
		for i, x := range drawnRevoked(seed, 300, 30+int(seed%2)*50) {
			wasAdded := kept.add(x.Serial, x.At)
			got, ok := impl.AddRevoked(l, x.Serial, x.At)
			if ok != wasAdded || !slices.Equal(got, kept.list()) || !impl.AreRevoked(got) {
				t.Fatalf("seed %d, element %d: AddRevoked(%v, %v) = %v, %v, want %v, %v", seed, i, l, x, got, ok, kept.list(), wasAdded)
			}
			if !impl.KnowsMore(got, l) || ok && !impl.KnowsMore(got, []impl.Revoked{x}) {
				t.Fatalf("seed %d, element %d: %v is forgotten in %v", seed, i, x, got)
			}
			for _, old := range l {
				if !impl.IsRevoked(got, old.Serial, old.At) {
					t.Fatalf("seed %d, element %d: %v is forgotten in %v", seed, i, old, got)
				}
			}
			l = got
		}
		if isFull := len(l) == maxRevoked; isFull != (seed%2 == 1) {
			t.Errorf("seed %d: %d elements", seed, len(l))
		}
	}
}

func TestListsThatAreMergedAreNeverForgotten(t *testing.T) {
	for seed := range uint32(200) {
		a := earliestOf(drawnRevoked(seed, 20, 60)).list()
		b := drawnRevoked(seed+1000, 60, 60)
		want := earliestOf(a, b).list()
		checkMerged(t, a, b, want)
		if got := impl.MergeRevoked(a, b); !impl.AreRevoked(got) || !impl.KnowsMore(got, a) {
			t.Errorf("seed %d: %v knows less than %v", seed, got, a)
		}
		checkMerged(t, want, b, want)
		checkMerged(t, want, a, want)
	}
}

func TestRevokedListsAreLeftUntouched(t *testing.T) {
	lists := slices.Concat(someRevoked(), noRevoked())
	for _, want := range lists {
		for _, x := range []impl.Revoked{{Serial: 1, At: 0}, {Serial: 7, At: 0}, {Serial: 10, At: 1}, {Serial: 9999, At: 3}, {Serial: 0, At: 3}, {Serial: 10, At: -1}} {
			l := sparedRevoked(want)
			impl.AreRevoked(l)
			impl.AddRevoked(l, x.Serial, x.At)
			impl.RevokedAt(l, x.Serial)
			impl.IsRevoked(l, x.Serial, x.At)
			if !areRevokedUntouched(l, want) {
				t.Errorf("with %v, %v became %v", x, want, l[:len(l)+16])
			}
		}
		for _, other := range lists {
			a, b := sparedRevoked(want), sparedRevoked(other)
			impl.MergeRevoked(a, b)
			impl.KnowsMore(a, b)
			if !areRevokedUntouched(a, want) || !areRevokedUntouched(b, other) {
				t.Errorf("%v and %v became %v and %v", want, other, a[:len(a)+16], b[:len(b)+16])
			}
		}
		l := sparedRevoked(want)
		impl.MergeRevoked(l, l)
		impl.KnowsMore(l, l)
		if !areRevokedUntouched(l, want) {
			t.Errorf("merged into itself, %v became %v", want, l[:len(l)+16])
		}
	}
}

func TestRevokedListsShareNoMemory(t *testing.T) {
	for _, want := range slices.Concat(someRevoked(), noRevoked()) {
		for _, x := range []impl.Revoked{{Serial: 1, At: 0}, {Serial: 7, At: 0}, {Serial: 10, At: 1}, {Serial: 10, At: maxTime}, {Serial: 9999, At: 3}, {Serial: 0, At: 3}, {Serial: 10, At: -1}} {
			l := sparedRevoked(want)
			got, _ := impl.AddRevoked(l, x.Serial, x.At)
			again, _ := impl.AddRevoked(l, x.Serial, x.At)
			copied := slices.Clone(again)
			spoilRevoked(got)
			if !areRevokedUntouched(l, want) || !slices.Equal(again, copied) {
				t.Errorf("AddRevoked(%v, %v) shares memory", want, x)
			}
		}
		for _, other := range [][]impl.Revoked{nil, {}, {{}}, want, revoked([2]int{1, 0}), revoked([2]int{10, 3}), tensRevoked(3), badRevoked()} {
			for _, pair := range [][2][]impl.Revoked{{want, other}, {other, want}} {
				a, b := sparedRevoked(pair[0]), sparedRevoked(pair[1])
				got := impl.MergeRevoked(a, b)
				again := impl.MergeRevoked(a, b)
				copied := slices.Clone(again)
				spoilRevoked(got)
				if !areRevokedUntouched(a, pair[0]) || !areRevokedUntouched(b, pair[1]) || !slices.Equal(again, copied) {
					t.Errorf("MergeRevoked(%v, %v) shares memory", pair[0], pair[1])
				}
			}
		}
		l := sparedRevoked(want)
		spoilRevoked(impl.MergeRevoked(l, l))
		if !areRevokedUntouched(l, want) {
			t.Errorf("%v, merged into itself, shares memory", want)
		}
	}
}
