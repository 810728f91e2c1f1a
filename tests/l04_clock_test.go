package tests

import (
	"math"
	"testing"

	"loop.example/g00594/impl"
)

const maxTime = 10000

// noTimes holds integers that are no times, nearest to the times and farthest from them.
func noTimes() []int {
	return []int{
		-1, -2, -10, -maxTime, -maxTime - 1, math.MinInt, math.MinInt + 1, math.MinInt + maxTime,
		maxTime + 1, maxTime + 2, 2 * maxTime, 1 << 32, math.MaxInt, math.MaxInt - 1, math.MaxInt - maxTime,
	}
}

// timesAtTheEnds holds the first and the last times, and the integers next to them that are none.
func timesAtTheEnds() []int {
	var times []int
	for t := -3; t <= 12; t++ {
		times = append(times, t)
	}
	for t := maxTime - 12; t <= maxTime+3; t++ {
		times = append(times, t)
	}
	return append(times, math.MinInt, math.MaxInt)
}

func isOneOfTheTimes(t int) bool {
	return t >= 0 && t <= maxTime
}

func TestMaxTime(t *testing.T) {
	if impl.MaxTime != maxTime {
		t.Errorf("MaxTime is %d", impl.MaxTime)
	}
}

func TestIsTime(t *testing.T) {
	for _, c := range []struct {
		t    int
		want bool
	}{
		{-1, false},
		{0, true},
		{1, true},
		{500, true},
		{maxTime - 1, true},
		{maxTime, true},
		{maxTime + 1, false},
		{math.MinInt, false},
		{math.MaxInt, false},
	} {
		if got := impl.IsTime(c.t); got != c.want {
			t.Errorf("IsTime(%d) = %v", c.t, got)
		}
	}
	for _, x := range noTimes() {
		if impl.IsTime(x) {
			t.Errorf("IsTime(%d) = true", x)
		}
	}
	for x := -100; x <= maxTime+100; x++ {
		if impl.IsTime(x) != isOneOfTheTimes(x) {
			t.Errorf("IsTime(%d) = %v", x, impl.IsTime(x))
		}
	}
}

func TestAgeOf(t *testing.T) {
	for _, c := range []struct{ at, now, want int }{
		{3, 10, 7},
		{9, 10, 1},
		{10, 10, 0},
		{11, 10, -1},
		{0, 0, 0},
		{0, 1, 1},
		{1, 0, -1},
		{0, maxTime, maxTime},
		{1, maxTime, maxTime - 1},
		{0, maxTime - 1, maxTime - 1},
		{maxTime, maxTime, 0},
		{maxTime - 1, maxTime, 1},
		{maxTime, maxTime - 1, -1},
		{maxTime, 0, -1},
		{-1, 5, -1},
		{-1, 0, -1},
		{-1, -1, -1},
		{-2, -1, -1},
		{0, -1, -1},
		{5, -1, -1},
		{0, maxTime + 1, -1},
		{5, maxTime + 1, -1},
		{maxTime, maxTime + 1, -1},
		{maxTime + 1, maxTime + 1, -1},
		{maxTime + 1, maxTime, -1},
		{maxTime + 1, maxTime + 2, -1},
		{-1, maxTime + 1, -1},
		{math.MinInt, math.MaxInt, -1},
		{math.MaxInt, math.MinInt, -1},
		{math.MinInt, math.MinInt, -1},
		{math.MaxInt, math.MaxInt, -1},
		{math.MinInt, 0, -1},
		{math.MinInt, maxTime, -1},
		{0, math.MaxInt, -1},
		{math.MaxInt, 0, -1},
		{maxTime, math.MinInt, -1},
	} {
		if got := impl.AgeOf(c.at, c.now); got != c.want {
			t.Errorf("AgeOf(%d, %d) = %d, want %d", c.at, c.now, got, c.want)
		}
	}
}

func TestIsFresh(t *testing.T) {
	for _, c := range []struct {
		at, now, most int
		want          bool
	}{
		{3, 10, 7, true},
		{3, 10, 8, true},
		{3, 10, 6, false},
		{3, 10, 0, false},
		{3, 10, -1, false},
		{3, 10, -7, false},
		{10, 10, 0, true},
		{10, 10, 1, true},
		{10, 10, -1, false},
		{0, 0, 0, true},
		{0, 0, -1, false},
		{maxTime, maxTime, 0, true},
		{0, maxTime, maxTime, true},
		{0, maxTime, maxTime - 1, false},
		{0, maxTime, maxTime + 1, true},
		{0, maxTime, math.MaxInt, true},
		{0, maxTime, math.MinInt, false},
		{10, 10, math.MaxInt, true},
		{10, 10, math.MinInt, false},
		{11, 10, 0, false},
		{11, 10, -1, false},
		{11, 10, 5, false},
		{11, 10, math.MaxInt, false},
		{-1, 5, 6, false},
		{-1, 5, -1, false},
		{-1, 5, math.MaxInt, false},
		{-1, -1, 0, false},
		{0, maxTime + 1, maxTime + 1, false},
		{maxTime + 1, maxTime + 1, 0, false},
		{math.MinInt, math.MaxInt, math.MaxInt, false},
		{math.MinInt, math.MaxInt, -1, false},
		{math.MaxInt, math.MinInt, 1, false},
	} {
		if got := impl.IsFresh(c.at, c.now, c.most); got != c.want {
			t.Errorf("IsFresh(%d, %d, %d) = %v", c.at, c.now, c.most, got)
		}
	}
}

func TestEndOf(t *testing.T) {
	for _, c := range []struct{ from, span, want int }{
		{5, 7, 12},
		{5, 0, 5},
		{0, 0, 0},
		{0, 1, 1},
		{1, 0, 1},
		{0, maxTime, maxTime},
		{0, maxTime - 1, maxTime - 1},
		{1, maxTime - 1, maxTime},
		{1, maxTime, maxTime},
		{2, maxTime - 1, maxTime},
		{9999, 7, maxTime},
		{4000, 6000, maxTime},
		{4000, 5999, maxTime - 1},
		{4000, 6001, maxTime},
		{maxTime, 0, maxTime},
		{maxTime, 1, maxTime},
		{maxTime - 1, 0, maxTime - 1},
		{maxTime - 1, 1, maxTime},
		{maxTime - 1, 2, maxTime},
		{maxTime, maxTime, maxTime},
		{-1, 7, 0},
		{-1, 0, 0},
		{-1, 1, 0},
		{-1, maxTime, 0},
		{5, -1, 0},
		{5, -5, 0},
		{maxTime, -1, 0},
		{5, maxTime + 1, 0},
		{0, maxTime + 1, 0},
		{maxTime + 1, 0, 0},
		{maxTime + 1, 1, 0},
		{maxTime + 1, -1, 0},
		{-1, maxTime + 1, 0},
		{-1, -1, 0},
		{maxTime + 1, maxTime + 1, 0},
		{math.MinInt, 5, 0},
		{math.MaxInt, 5, 0},
		{5, math.MinInt, 0},
		{5, math.MaxInt, 0},
		{math.MaxInt, math.MaxInt, 0},
		{math.MinInt, math.MinInt, 0},
		{math.MinInt, math.MaxInt, 0},
		{math.MaxInt, math.MinInt, 0},
	} {
		if got := impl.EndOf(c.from, c.span); got != c.want {
			t.Errorf("EndOf(%d, %d) = %d, want %d", c.from, c.span, got, c.want)
		}
	}
}

func TestIsWithin(t *testing.T) {
	for _, c := range []struct {
		from, until, now int
		want             bool
	}{
		{3, 5, 2, false},
		{3, 5, 3, true},
		{3, 5, 4, true},
		{3, 5, 5, true},
		{3, 5, 6, false},
		{4, 4, 3, false},
		{4, 4, 4, true},
		{4, 4, 5, false},
		{5, 3, 2, false},
		{5, 3, 3, false},
		{5, 3, 4, false},
		{5, 3, 5, false},
		{5, 3, 6, false},
		{0, maxTime, 0, true},
		{0, maxTime, 1, true},
		{0, maxTime, maxTime, true},
		{0, maxTime, -1, false},
		{0, maxTime, maxTime + 1, false},
		{0, 0, 0, true},
		{0, 0, 1, false},
		{maxTime, maxTime, maxTime, true},
		{maxTime, maxTime, maxTime - 1, false},
		{maxTime, 0, 5, false},
		{-1, 5, 0, false},
		{-1, 5, 5, false},
		{-1, 5, -1, false},
		{-1, -1, -1, false},
		{-1, maxTime + 1, 5, false},
		{0, maxTime + 1, 5, false},
		{3, maxTime + 1, maxTime, false},
		{3, maxTime + 1, maxTime + 1, false},
		{maxTime + 1, maxTime + 1, maxTime + 1, false},
		{maxTime + 1, maxTime + 2, maxTime + 1, false},
		{math.MinInt, math.MaxInt, 0, false},
		{math.MinInt, 5, 3, false},
		{3, math.MaxInt, 5, false},
		{0, maxTime, math.MinInt, false},
		{0, maxTime, math.MaxInt, false},
		{math.MinInt, math.MaxInt, math.MinInt, false},
		{math.MinInt, math.MaxInt, math.MaxInt, false},
	} {
		if got := impl.IsWithin(c.from, c.until, c.now); got != c.want {
			t.Errorf("IsWithin(%d, %d, %d) = %v", c.from, c.until, c.now, got)
		}
	}
}

func TestLeftOf(t *testing.T) {
	for _, c := range []struct{ until, now, want int }{
		{9, 4, 5},
		{5, 4, 1},
		{4, 4, 0},
		{3, 4, 0},
		{4, 9, 0},
		{0, 0, 0},
		{1, 0, 1},
		{0, 1, 0},
		{maxTime, 0, maxTime},
		{maxTime - 1, 0, maxTime - 1},
		{maxTime, 1, maxTime - 1},
		{maxTime, maxTime - 1, 1},
		{maxTime, maxTime, 0},
		{maxTime - 1, maxTime, 0},
		{0, maxTime, 0},
		{maxTime + 1, 4, 0},
		{maxTime + 1, 0, 0},
		{maxTime + 1, maxTime, 0},
		{maxTime + 1, maxTime + 1, 0},
		{maxTime + 2, maxTime + 1, 0},
		{maxTime, maxTime + 1, 0},
		{4, maxTime + 1, 0},
		{4, -1, 0},
		{0, -1, 0},
		{maxTime, -1, 0},
		{-1, 4, 0},
		{-1, 0, 0},
		{-1, -1, 0},
		{-1, -2, 0},
		{maxTime + 1, -1, 0},
		{math.MaxInt, 0, 0},
		{math.MaxInt, math.MinInt, 0},
		{math.MinInt, math.MaxInt, 0},
		{math.MinInt, 0, 0},
		{math.MaxInt, math.MaxInt, 0},
		{5, math.MinInt, 0},
		{5, math.MaxInt, 0},
	} {
		if got := impl.LeftOf(c.until, c.now); got != c.want {
			t.Errorf("LeftOf(%d, %d) = %d, want %d", c.until, c.now, got, c.want)
		}
	}
}

// A difference or a sum of two of these may wrap around to what looks like a time.
func TestWhatIsNoTimeHasTheDocumentedAnswer(t *testing.T) {
	for _, x := range noTimes() {
		for _, y := range append(noTimes(), timesAtTheEnds()...) {
			if impl.AgeOf(x, y) != -1 || impl.AgeOf(y, x) != -1 {
				t.Errorf("AgeOf of %d and %d: %d, %d", x, y, impl.AgeOf(x, y), impl.AgeOf(y, x))
			}
			if impl.EndOf(x, y) != 0 || impl.EndOf(y, x) != 0 {
				t.Errorf("EndOf of %d and %d: %d, %d", x, y, impl.EndOf(x, y), impl.EndOf(y, x))
			}
			if impl.LeftOf(x, y) != 0 || impl.LeftOf(y, x) != 0 {
				t.Errorf("LeftOf of %d and %d: %d, %d", x, y, impl.LeftOf(x, y), impl.LeftOf(y, x))
			}
			for _, z := range timesAtTheEnds() {
				if impl.IsFresh(x, y, z) || impl.IsFresh(y, x, z) {
					t.Errorf("fresh: %d, %d, %d", x, y, z)
				}
				if impl.IsWithin(x, y, z) || impl.IsWithin(y, x, z) || impl.IsWithin(y, z, x) {
					t.Errorf("within: %d, %d, %d", x, y, z)
				}
			}
		}
	}
}

// What is expected is counted, one unit of time after the other.
func TestAgesEndsAndWhatIsLeftAreCounted(t *testing.T) {
	const last = 40
	for from := 0; from <= last; from++ {
		now := from
		for age := 0; now <= last; age++ {
			if got := impl.AgeOf(from, now); got != age {
				t.Errorf("AgeOf(%d, %d) = %d, want %d", from, now, got, age)
			}
			if got := impl.LeftOf(now, from); got != age {
				t.Errorf("LeftOf(%d, %d) = %d, want %d", now, from, got, age)
			}
			if got := impl.EndOf(from, age); got != now {
				t.Errorf("EndOf(%d, %d) = %d, want %d", from, age, got, now)
			}
			if age > 0 && (impl.AgeOf(now, from) != -1 || impl.LeftOf(from, now) != 0) {
				t.Errorf("%d is later than %d", now, from)
			}
			now++
		}
	}
}

func TestAnAgeLeadsBackToNow(t *testing.T) {
	for _, at := range timesAtTheEnds() {
		for _, now := range timesAtTheEnds() {
			isAge := isOneOfTheTimes(at) && isOneOfTheTimes(now) && at <= now
			age := impl.AgeOf(at, now)
			if isAge != (age != -1) {
				t.Errorf("AgeOf(%d, %d) = %d", at, now, age)
			}
			if isAge && (at+age != now || impl.EndOf(at, age) != now) {
				t.Errorf("%d and the age %d make %d, not %d", at, age, impl.EndOf(at, age), now)
			}
			if left := impl.LeftOf(now, at); left != max(age, 0) {
				t.Errorf("LeftOf(%d, %d) = %d, but the age is %d", now, at, left, age)
			}
		}
	}
}

func TestAnEndIsAsOldAsItsSpan(t *testing.T) {
	for _, from := range timesAtTheEnds() {
		for _, span := range timesAtTheEnds() {
			end := impl.EndOf(from, span)
			if !isOneOfTheTimes(from) || !isOneOfTheTimes(span) {
				if end != 0 {
					t.Errorf("EndOf(%d, %d) = %d", from, span, end)
				}
				continue
			}
			want := min(span, maxTime-from)
			if impl.AgeOf(from, end) != want || impl.LeftOf(end, from) != want {
				t.Errorf("EndOf(%d, %d) = %d: age %d, left %d, want %d", from, span, end, impl.AgeOf(from, end), impl.LeftOf(end, from), want)
			}
			if !impl.IsWithin(from, end, from) || !impl.IsWithin(from, end, end) || impl.IsWithin(from, end, end+1) || impl.IsWithin(from, end, from-1) {
				t.Errorf("the span from %d to %d has other ends", from, end)
			}
		}
	}
}

func TestWithinIsWhatHasAnAgeOnBothSides(t *testing.T) {
	for _, from := range timesAtTheEnds() {
		for _, until := range timesAtTheEnds() {
			for _, now := range timesAtTheEnds() {
				within := impl.IsWithin(from, until, now)
				if within != (impl.AgeOf(from, now) != -1 && impl.AgeOf(now, until) != -1) {
					t.Errorf("IsWithin(%d, %d, %d) = %v", from, until, now, within)
				}
				if within && impl.AgeOf(from, now)+impl.LeftOf(until, now) != impl.AgeOf(from, until) {
					t.Errorf("the age and what is left of %d, %d, %d do not add up", from, until, now)
				}
			}
		}
	}
}

func TestFreshIsWhatIsWithinItsSpan(t *testing.T) {
	for _, at := range timesAtTheEnds() {
		for _, now := range timesAtTheEnds() {
			for _, most := range timesAtTheEnds() {
				fresh := impl.IsFresh(at, now, most)
				age := impl.AgeOf(at, now)
				if fresh != (age != -1 && age <= most) {
					t.Errorf("IsFresh(%d, %d, %d) = %v, and the age is %d", at, now, most, fresh, age)
				}
				if isOneOfTheTimes(most) && fresh != impl.IsWithin(at, impl.EndOf(at, most), now) {
					t.Errorf("IsFresh(%d, %d, %d) = %v, and the end is %d", at, now, most, fresh, impl.EndOf(at, most))
				}
			}
		}
	}
}
