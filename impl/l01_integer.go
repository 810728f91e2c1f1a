package impl

import "strconv"

// MaxValue is the largest integer that the encodings of this module carry.
const MaxValue = 1000000000000

// sought is the end of the order at which extreme looks: smallest or largest.
type sought interface {
	isSought()
}

type smallest struct{}

type largest struct{}

func (smallest) isSought() {}

func (largest) isSought() {}

// FormatInt returns the decimal representation of n.
func FormatInt(n int) string {
	return strconv.Itoa(n)
}

// ParseInt returns the integer from 0 to MaxValue whose FormatInt is s, and true; 0 and false if there is none.
func ParseInt(s string) (int, bool) {
	n, err := strconv.Atoi(s)
	if err != nil || !InRange(n, 0, MaxValue) {
		return 0, false
	}
	// Atoi also takes a plus sign, "-0" and leading zeros, which FormatInt never writes.
	if FormatInt(n) != s {
		return 0, false
	}
	return n, true
}

// Min returns the smaller one of a and b.
func Min(a int, b int) int {
	return extreme(smallest{}, a, b)
}

// Max returns the larger one of a and b.
func Max(a int, b int) int {
	return extreme(largest{}, a, b)
}

// CeilDiv returns a divided by b, rounded up; 0 if a or b is out of its range.
func CeilDiv(a int, b int) int {
	if !InRange(a, 0, MaxValue) || !InRange(b, 1, MaxValue) {
		return 0
	}
	return (a + b - 1) / b
}

// Mod returns the remainder of p modulo q from 0 to q-1, also for negative p; 0 if q is out of its range.
func Mod(p int, q int) int {
	if !InRange(q, 1, MaxValue) {
		return 0
	}
	r := p % q
	// The remainder of Go takes the sign of p.
	if r < 0 {
		r += q
	}
	return r
}

// InRange reports whether low <= n and n <= high.
func InRange(n int, low int, high int) bool {
	return low <= n && n <= high
}

// extreme takes the first number apart from the rest, so that there always is a result.
func extreme(s sought, first int, rest ...int) int {
	best := first
	for _, n := range rest {
		if isCloser(s, n, best) {
			best = n
		}
	}
	return best
}

// isCloser reports whether a is closer than b to the end that is sought.
func isCloser(s sought, a int, b int) bool {
	switch s.(type) {
	case smallest:
		return a < b
	case largest:
		return a > b
	}
	return false
}
