package impl

import "strconv"

// MaxValue is the largest integer that the encodings of this module carry.
const MaxValue = 1000000000000

// sought has a method so that only the two ends of the order, smallest and largest, can be asked for.
type sought interface {
	isSought()
}

type smallest struct{}

type largest struct{}

func (smallest) isSought() {}

func (largest) isSought() {}

func FormatInt(n int) string {
	return strconv.Itoa(n)
}

func ParseInt(s string) (int, bool) {
	n, err := strconv.Atoi(s)
	if err != nil || !InRange(n, 0, MaxValue) {
		return 0, false
	}
	// Atoi also takes a plus sign, "-0" and leading zeros, which FormatInt never writes.
	if FormatInt(n) != s {
		return 0, false
	}
	return n, true
}

func Min(a int, b int) int {
	return extreme(smallest{}, a, b)
}

func Max(a int, b int) int {
	return extreme(largest{}, a, b)
}

func CeilDiv(a int, b int) int {
	if !InRange(a, 0, MaxValue) || !InRange(b, 1, MaxValue) {
		return 0
	}
	return (a + b - 1) / b
}

func Mod(p int, q int) int {
	if !InRange(q, 1, MaxValue) {
		return 0
	}
	r := p % q
	// The remainder of Go takes the sign of p.
	if r < 0 {
		r += q
	}
	return r
}

func InRange(n int, low int, high int) bool {
	return low <= n && n <= high
}

// extreme takes the first number apart from the rest, so that there always is a result.
func extreme(s sought, first int, rest ...int) int {
	best := first
	for _, n := range rest {
		if isCloser(s, n, best) {
			best = n
		}
	}
	return best
}

func isCloser(s sought, a int, b int) bool {
	switch s.(type) {
	case smallest:
		return a < b
	case largest:
		return a > b
	}
	return false
}
