package tests

import (
	"math"
	"strconv"
	"strings"
	"testing"

	"loop.example/g00594/impl"
)

const maxValue = 1000000000000

func TestMaxValue(t *testing.T) {
	if impl.MaxValue != maxValue {
		t.Errorf("MaxValue is %d", impl.MaxValue)
	}
}

func TestFormatInt(t *testing.T) {
	for _, c := range []struct {
		n    int
		want string
	}{
		{-3, "-3"},
		{0, "0"},
		{7, "7"},
		{-10, "-10"},
		{120, "120"},
		{maxValue, "1000000000000"},
		{math.MaxInt, "9223372036854775807"},
		{math.MaxInt + math.MinInt, "-1"},
		{math.MinInt + 1, "-9223372036854775807"},
		{math.MinInt, "-9223372036854775808"},
	} {
		if got := impl.FormatInt(c.n); got != c.want {
			t.Errorf("FormatInt(%d) = %q, want %q", c.n, got, c.want)
		}
	}
}

func TestParseIntTakesDecimalForms(t *testing.T) {
	for _, c := range []struct {
		s    string
		want int
	}{
		{"0", 0},
		{"1", 1},
		{"9", 9},
		{"10", 10},
		{"17", 17},
		{"100", 100},
		{"1234567890", 1234567890},
		{"999999999999", maxValue - 1},
		{"1000000000000", maxValue},
	} {
		if got, ok := impl.ParseInt(c.s); !ok || got != c.want {
			t.Errorf("ParseInt(%q) = %d, %v, want %d, true", c.s, got, ok, c.want)
		}
	}
}

func TestParseIntInvertsFormatInt(t *testing.T) {
	check := func(n int) {
		if got, ok := impl.ParseInt(impl.FormatInt(n)); !ok || got != n {
			t.Errorf("ParseInt(FormatInt(%d)) = %d, %v", n, got, ok)
		}
	}
	for n := range 2000 {
		check(n)
		check(maxValue - n)
	}
	for power := 1; power <= maxValue; power *= 10 {
		check(power - 1)
		check(power)
	}
}

func TestParseIntRejectsOtherText(t *testing.T) {
	rejected := []string{
		"",
		"017", "00", "01", "0000000000000", "01000000000000",
		"-1", "-0", "+0", "+1", "+17", "--1", "+-1", "-", "+",
		"-1000000000000", "-9223372036854775808",
		"1000000000001", "9999999999999", "9223372036854775807",
		"9223372036854775808", "18446744073709551616", "18446744073709551633",
		strings.Repeat("9", 1000), strings.Repeat("0", 1000), strings.Repeat("0", 1000) + "1",
		" ", " 1", "1 ", "1 2", "\t1", "1\n", "\x001", "1\x00",
		"1x", "x1", "x", "0x10", "0b1", "0o7", "1e3", "1.0", "1.", ".1", "1_000", "1,000",
		"\xff", "\u0663", "1\u0663", "\uff11",
	}
	for _, s := range rejected {
		if got, ok := impl.ParseInt(s); ok || got != 0 {
			t.Errorf("ParseInt(%q) = %d, %v, want 0, false", s, got, ok)
		}
	}
}

func TestParseIntTakesOneByteOnlyIfItIsADigit(t *testing.T) {
	for b := range 256 {
		s := string([]byte{byte(b)})
		got, ok := impl.ParseInt(s)
		isDigit := b >= '0' && b <= '9'
		if ok != isDigit || ok && got != b-'0' || !ok && got != 0 {
			t.Errorf("ParseInt(%q) = %d, %v", s, got, ok)
		}
	}
}

// Every short text over these bytes is taken exactly if some number is written so.
func TestParseIntTakesExactlyWhatFormatIntWrites(t *testing.T) {
	written := map[string]int{}
	for n := range 10000 {
		written[strconv.Itoa(n)] = n
	}
	texts := []string{""}
	for range 4 {
		var longer []string
		for _, s := range texts {
			for _, b := range "01 9+-" {
				longer = append(longer, s+string(b))
			}
		}
		for _, s := range longer {
			want, exists := written[s]
			if got, ok := impl.ParseInt(s); ok != exists || got != want {
				t.Errorf("ParseInt(%q) = %d, %v, want %d, %v", s, got, ok, want, exists)
			}
		}
		texts = longer
	}
}

func TestMinAndMax(t *testing.T) {
	for _, c := range []struct {
		a, b, least, most int
	}{
		{2, -1, -1, 2},
		{-1, 2, -1, 2},
		{3, 3, 3, 3},
		{0, 0, 0, 0},
		{-5, -4, -5, -4},
		{-4, -5, -5, -4},
		{0, maxValue, 0, maxValue},
		{math.MinInt, math.MaxInt, math.MinInt, math.MaxInt},
		{math.MaxInt, math.MinInt, math.MinInt, math.MaxInt},
		{math.MinInt, 1, math.MinInt, 1},
	} {
		if got := impl.Min(c.a, c.b); got != c.least {
			t.Errorf("Min(%d, %d) = %d, want %d", c.a, c.b, got, c.least)
		}
		if got := impl.Max(c.a, c.b); got != c.most {
			t.Errorf("Max(%d, %d) = %d, want %d", c.a, c.b, got, c.most)
		}
	}
}

func TestCeilDiv(t *testing.T) {
	for _, c := range []struct {
		a, b, want int
	}{
		{7, 3, 3},
		{6, 3, 2},
		{1, 2, 1},
		{0, 1, 0},
		{0, maxValue, 0},
		{1, maxValue, 1},
		{maxValue, 1, maxValue},
		{maxValue - 1, 1, maxValue - 1},
		{maxValue, 2, maxValue / 2},
		{maxValue - 1, 2, maxValue / 2},
		{maxValue, maxValue, 1},
		{maxValue - 1, maxValue, 1},
		{maxValue, maxValue - 1, 2},
	} {
		if got := impl.CeilDiv(c.a, c.b); got != c.want {
			t.Errorf("CeilDiv(%d, %d) = %d, want %d", c.a, c.b, got, c.want)
		}
	}
}

func TestCeilDivIsTheLeastFactorThatReaches(t *testing.T) {
	for a := range 60 {
		for b := 1; b < 60; b++ {
			want := 0
			for want*b < a {
				want++
			}
			if got := impl.CeilDiv(a, b); got != want {
				t.Errorf("CeilDiv(%d, %d) = %d, want %d", a, b, got, want)
			}
		}
	}
}

func TestCeilDivOutOfRange(t *testing.T) {
	for _, c := range []struct{ a, b int }{
		{-1, 1}, {-1, 2}, {-7, 3}, {math.MinInt, 1}, {math.MinInt, -1},
		{maxValue + 1, 1}, {maxValue + 1, 3}, {math.MaxInt, 1}, {math.MaxInt, maxValue},
		{1, 0}, {7, 0}, {0, 0}, {1, -1}, {7, -3}, {7, math.MinInt},
		{1, maxValue + 1}, {maxValue, maxValue + 1}, {1, math.MaxInt}, {-1, 0},
	} {
		if got := impl.CeilDiv(c.a, c.b); got != 0 {
			t.Errorf("CeilDiv(%d, %d) = %d, want 0", c.a, c.b, got)
		}
	}
}

func TestMod(t *testing.T) {
	for _, c := range []struct {
		p, q, want int
	}{
		{-1, 7, 6},
		{15, 7, 1},
		{7, 7, 0},
		{-7, 7, 0},
		{-8, 7, 6},
		{0, 7, 0},
		{6, 7, 6},
		{5, 1, 0},
		{-5, 1, 0},
		{maxValue, maxValue, 0},
		{maxValue - 1, maxValue, maxValue - 1},
		{maxValue + 1, maxValue, 1},
		{-1, maxValue, maxValue - 1},
		{-maxValue, maxValue, 0},
		{-maxValue - 1, maxValue, maxValue - 1},
		{math.MaxInt, maxValue, 36854775807},
		{math.MinInt, maxValue, 963145224192},
		{math.MinInt, 1, 0},
		{math.MinInt, 2, 0},
		{math.MinInt + 1, 2, 1},
	} {
		if got := impl.Mod(c.p, c.q); got != c.want {
			t.Errorf("Mod(%d, %d) = %d, want %d", c.p, c.q, got, c.want)
		}
	}
}

func TestModIsTheRemainderInItsRange(t *testing.T) {
	for p := -60; p <= 60; p++ {
		for q := 1; q <= 20; q++ {
			got := impl.Mod(p, q)
			if got < 0 || got >= q || (p-got)%q != 0 {
				t.Errorf("Mod(%d, %d) = %d", p, q, got)
			}
		}
	}
}

func TestModOutOfRange(t *testing.T) {
	for _, q := range []int{0, -1, -7, math.MinInt, maxValue + 1, math.MaxInt} {
		for _, p := range []int{3, -3, 0, maxValue, math.MaxInt, math.MinInt} {
			if got := impl.Mod(p, q); got != 0 {
				t.Errorf("Mod(%d, %d) = %d, want 0", p, q, got)
			}
		}
	}
}

func TestInRange(t *testing.T) {
	for _, c := range []struct {
		n, low, high int
		want         bool
	}{
		{2, 2, 3, true},
		{3, 2, 3, true},
		{1, 2, 3, false},
		{4, 2, 3, false},
		{2, 2, 2, true},
		{2, 3, 2, false},
		{3, 3, 2, false},
		{-2, -3, -1, true},
		{0, -3, -1, false},
		{math.MinInt, math.MinInt, math.MaxInt, true},
		{math.MaxInt, math.MinInt, math.MaxInt, true},
		{math.MinInt, math.MinInt + 1, math.MaxInt, false},
		{math.MaxInt, math.MinInt, math.MaxInt - 1, false},
		{0, math.MaxInt, math.MinInt, false},
	} {
		if got := impl.InRange(c.n, c.low, c.high); got != c.want {
			t.Errorf("InRange(%d, %d, %d) = %v", c.n, c.low, c.high, got)
		}
	}
}
