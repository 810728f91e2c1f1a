package tests

import (
	"math"
	"strings"
	"testing"

	"loop.example/g00594/impl"
)

// nameTexts holds the texts of all names, from the least name, 10, on.
func nameTexts() []string {
	return strings.Fields("p0 p1 p2 p3 p4 p5 p6 p7 p8 p9 " +
		"d0 d1 d2 d3 d4 d5 d6 d7 d8 d9 " +
		"g0 g1 g2 g3 g4 g5 g6 g7 g8 g9 " +
		"o0 o1 o2 o3 o4 o5 o6 o7 o8 o9")
}

// noNames holds integers that are no names, nearest to the names and farthest from them.
func noNames() []int {
	return []int{
		9, 8, 5, 1, 0, -1, -9, -10, -11, -20, -27, -49, -50, math.MinInt, math.MinInt + 1, math.MinInt + 27,
		50, 51, 59, 60, 90, 99, 100, 110, 127, 270, 1 << 32, 1<<32 + 27, math.MaxInt, math.MaxInt - 27,
	}
}

// nameOfText looks a text up among those of all names.
func nameOfText(s string) (int, bool) {
	for i, text := range nameTexts() {
		if text == s {
			return 10 + i, true
		}
	}
	return -1, false
}

func checkNameText(t *testing.T, s string) {
	t.Helper()
	want, isText := nameOfText(s)
	got, ok := impl.ParseName(s)
	if got != want || ok != isText {
		t.Errorf("ParseName(%q) = %d, %v, want %d, %v", s, got, ok, want, isText)
	}
	told := ""
	if isText {
		told = s
	}
	if back := impl.FormatName(got); back != told {
		t.Errorf("%q is read as %d and told again as %q", s, got, back)
	}
}

func TestKindsOfNames(t *testing.T) {
	if impl.PnPerson != 1 || impl.PnDevice != 2 || impl.PnProgram != 3 || impl.PnObject != 4 {
		t.Error(impl.PnPerson, impl.PnDevice, impl.PnProgram, impl.PnObject)
	}
}

func TestMakeName(t *testing.T) {
	for _, c := range []struct{ kind, n, want int }{
		{1, 0, 10},
		{1, 9, 19},
		{2, 0, 20},
		{2, 7, 27},
		{3, 3, 33},
		{3, 9, 39},
		{4, 0, 40},
		{4, 9, 49},
		{0, -1, -1},
		{0, 0, -1},
		{0, 9, -1},
		{0, 10, -1},
		{1, -1, -1},
		{1, 10, -1},
		{4, -1, -1},
		{4, 10, -1},
		{5, -1, -1},
		{5, 0, -1},
		{5, 9, -1},
		{5, 10, -1},
		{2, -1, -1},
		{3, 10, -1},
		{0, 27, -1},
		{2, 27, -1},
		{3, -10, -1},
		{5, -10, -1},
		{-1, 0, -1},
		{-1, 30, -1},
		{-2, -7, -1},
		{10, 0, -1},
		{math.MinInt, 0, -1},
		{math.MaxInt, 0, -1},
		{1, math.MinInt, -1},
		{1, math.MaxInt, -1},
		{math.MinInt, math.MinInt, -1},
		{math.MaxInt, math.MaxInt, -1},
		// Ten times these kinds wraps around to 0 and to 20.
		{math.MinInt, 9, -1},
		{math.MinInt + 2, 7, -1},
	} {
		if got := impl.MakeName(c.kind, c.n); got != c.want {
			t.Errorf("MakeName(%d, %d) = %d, want %d", c.kind, c.n, got, c.want)
		}
	}
}

// What is expected is counted, one name after the other.
func TestMakeNameCountsTheNames(t *testing.T) {
	next := 10
	for kind := -20; kind <= 20; kind++ {
		for n := -20; n <= 60; n++ {
			want := -1
			if kind >= 1 && kind <= 4 && n >= 0 && n <= 9 {
				want = next
				next++
			}
			if got := impl.MakeName(kind, n); got != want {
				t.Errorf("MakeName(%d, %d) = %d, want %d", kind, n, got, want)
			}
		}
	}
	if next != 50 {
		t.Errorf("the names end before %d", next)
	}
}

func TestIsName(t *testing.T) {
	for _, c := range []struct {
		name int
		want bool
	}{
		{9, false},
		{10, true},
		{11, true},
		{19, true},
		{20, true},
		{27, true},
		{39, true},
		{40, true},
		{49, true},
		{50, false},
		{0, false},
		{-1, false},
		{-10, false},
		{math.MinInt, false},
		{math.MaxInt, false},
	} {
		if got := impl.IsName(c.name); got != c.want {
			t.Errorf("IsName(%d) = %v", c.name, got)
		}
	}
	for name := -1000; name <= 1000; name++ {
		if got := impl.IsName(name); got != (name >= 10 && name <= 49) {
			t.Errorf("IsName(%d) = %v", name, got)
		}
	}
}

func TestKindOf(t *testing.T) {
	for _, c := range []struct{ name, want int }{
		{10, 1},
		{15, 1},
		{19, 1},
		{20, 2},
		{27, 2},
		{29, 2},
		{30, 3},
		{39, 3},
		{40, 4},
		{49, 4},
		{9, 0},
		{50, 0},
		{59, 0},
		{0, 0},
		{-1, 0},
		{-10, 0},
		{-27, 0},
		{100, 0},
		{math.MinInt, 0},
		{math.MaxInt, 0},
	} {
		if got := impl.KindOf(c.name); got != c.want {
			t.Errorf("KindOf(%d) = %d, want %d", c.name, got, c.want)
		}
	}
}

func TestHasKind(t *testing.T) {
	for _, c := range []struct {
		name, kind int
		want       bool
	}{
		{10, 1, true},
		{19, 1, true},
		{20, 2, true},
		{30, 3, true},
		{40, 4, true},
		{49, 4, true},
		{19, 2, false},
		{20, 1, false},
		{27, 7, false},
		{27, 0, false},
		{27, -1, false},
		{27, -2, false},
		{27, 27, false},
		{27, math.MinInt, false},
		{27, math.MaxInt, false},
		{9, 0, false},
		{0, 0, false},
		{-1, 0, false},
		{-1, -1, false},
		{-10, -1, false},
		{-10, 1, false},
		{50, 0, false},
		{50, 4, false},
		{50, 5, false},
		{59, 5, false},
		{100, 10, false},
		{math.MinInt, 0, false},
		{math.MinInt, math.MinInt / 10, false},
		{math.MaxInt, 0, false},
		{math.MaxInt, math.MaxInt / 10, false},
	} {
		if got := impl.HasKind(c.name, c.kind); got != c.want {
			t.Errorf("HasKind(%d, %d) = %v", c.name, c.kind, got)
		}
	}
}

func TestFormatName(t *testing.T) {
	for _, c := range []struct {
		name int
		want string
	}{
		{10, "p0"},
		{19, "p9"},
		{20, "d0"},
		{27, "d7"},
		{29, "d9"},
		{30, "g0"},
		{33, "g3"},
		{39, "g9"},
		{40, "o0"},
		{41, "o1"},
		{49, "o9"},
		{9, ""},
		{50, ""},
		{0, ""},
		{-1, ""},
		{-10, ""},
		{110, ""},
		{math.MinInt, ""},
		{math.MaxInt, ""},
	} {
		if got := impl.FormatName(c.name); got != c.want {
			t.Errorf("FormatName(%d) = %q, want %q", c.name, got, c.want)
		}
	}
}

func TestParseName(t *testing.T) {
	for _, c := range []struct {
		s    string
		want int
	}{
		{"p0", 10},
		{"p9", 19},
		{"d0", 20},
		{"d7", 27},
		{"d9", 29},
		{"g0", 30},
		{"g3", 33},
		{"o0", 40},
		{"o1", 41},
		{"o9", 49},
	} {
		if got, ok := impl.ParseName(c.s); got != c.want || !ok {
			t.Errorf("ParseName(%q) = %d, %v, want %d, true", c.s, got, ok, c.want)
		}
	}
}

func TestParseNameRejectsOtherText(t *testing.T) {
	for _, s := range []string{
		"", "p", "d", "g", "o", "0", "1", "9",
		"p10", "p00", "p01", "d27", "o99", "g100", "10", "27", "49",
		"p-", "p-1", "p+1", "p+", "-p1", "+1", "p 1", "p ", " 1", " p1", "p1 ", "p1\n", "\tp1", "p\x001", "p1\x00",
		"P1", "D1", "G1", "O1", "x1", "a0", "r1", "n1", "q1", "e1", "h1", "f1", "c1",
		"1p", "0d", "7d", "pp", "p1p", "p1p1", "pd", "11p", "1p1", "dp1",
		"p/", "p:", "po", "pO", "pl", "p.", "p1.", "p1.0", "p0x1", "p1_0", "p1e0",
		"person1", "device 7", "p1,d2", "p1 d2",
		strings.Repeat("p", 10), "p" + strings.Repeat("0", 1000), strings.Repeat("p1", 1000),
	} {
		if got, ok := impl.ParseName(s); got != -1 || ok {
			t.Errorf("ParseName(%q) = %d, %v, want -1, false", s, got, ok)
		}
	}
}

// Letters and digits outside ASCII: in other scripts, as several bytes, and those whose last byte is the one of p or of 0.
func TestParseNameRejectsOtherRunes(t *testing.T) {
	for _, s := range []string{
		"\u0440", "\u04401", "\uff50\uff11", "p\uff11", "p\u0661", "p\u0967", "p\u00b9", "p\u2081", "\u24311",
		"\u0170", "\u01701", "p\u0130", "p\u0131", "\u0170\u0131", "\u00e9", "\u00b9", "p\u0301", "p1\u0301", "\ufeffp1",
		"\xff\xff", "p\xff", "\xff1", "p\xb1", "\xf01", "\xc1\xb0", "\xc1\xb01", "p\xc0\xb1", "\x80\x80", "p\xc3", "\xc31", "\ufffd1", "p\ufffd", "\U0001d4c5\U0001d7cf",
	} {
		if got, ok := impl.ParseName(s); got != -1 || ok {
			t.Errorf("ParseName(%q) = %d, %v, want -1, false", s, got, ok)
		}
	}
}

func TestEveryNameIsToldAndReadBack(t *testing.T) {
	name := 10
	for kind := 1; kind <= 4; kind++ {
		for n := 0; n <= 9; n++ {
			text := nameTexts()[name-10]
			if made := impl.MakeName(kind, n); made != name || !impl.IsName(made) {
				t.Errorf("MakeName(%d, %d) = %d, a name: %v", kind, n, made, impl.IsName(made))
			}
			if got := impl.KindOf(name); got != kind {
				t.Errorf("KindOf(%d) = %d", name, got)
			}
			for other := -1; other <= 50; other++ {
				if got := impl.HasKind(name, other); got != (other == kind) {
					t.Errorf("HasKind(%d, %d) = %v", name, other, got)
				}
			}
			if got := impl.FormatName(name); got != text {
				t.Errorf("FormatName(%d) = %q, want %q", name, got, text)
			}
			if got, ok := impl.ParseName(text); got != name || !ok {
				t.Errorf("ParseName(%q) = %d, %v", text, got, ok)
			}
			name++
		}
	}
}

func TestWhatIsNoNameHasNeitherKindNorText(t *testing.T) {
	check := func(x int) {
		if impl.IsName(x) || impl.KindOf(x) != 0 || impl.FormatName(x) != "" {
			t.Errorf("%d: a name %v, kind %d, text %q", x, impl.IsName(x), impl.KindOf(x), impl.FormatName(x))
		}
		for _, kind := range []int{-1, 0, 1, 2, 3, 4, 5, x, x / 10, math.MinInt, math.MaxInt} {
			if impl.HasKind(x, kind) {
				t.Errorf("HasKind(%d, %d) = true", x, kind)
			}
		}
	}
	for _, x := range noNames() {
		check(x)
	}
	for x := -500; x < 10; x++ {
		check(x)
	}
	for x := 50; x < 500; x++ {
		check(x)
	}
}

func TestEveryTextOfOneAndOfTwoBytes(t *testing.T) {
	checkNameText(t, "")
	for a := range 256 {
		checkNameText(t, string([]byte{byte(a)}))
		for b := range 256 {
			checkNameText(t, string([]byte{byte(a), byte(b)}))
		}
	}
}

func TestATextWithAByteMoreIsNoName(t *testing.T) {
	for _, text := range nameTexts() {
		for c := range 256 {
			more := string([]byte{byte(c)})
			checkNameText(t, more+text)
			checkNameText(t, text[:1]+more+text[1:])
			checkNameText(t, text+more)
		}
	}
}
