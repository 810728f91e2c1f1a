package tests

import (
	"bytes"
	"encoding/binary"
	"math"
	"slices"
	"testing"

	"loop.example/g00594/impl"
)

const mark = 0xa5

// withSpare returns a copy of l with spare capacity behind it, which is filled with m.
func withSpare[E any](l []E, m E) []E {
	return slices.Concat(l, slices.Repeat([]E{m}, 16))[:len(l)]
}

// isWithSpare reports whether l, which withSpare returned for want, is as it was.
func isWithSpare[E comparable](l []E, want []E, m E) bool {
	return slices.Equal(l, want) && slices.Equal(l[len(l):len(l)+16], slices.Repeat([]E{m}, 16))
}

func spared(b []byte) []byte {
	return withSpare(b, mark)
}

func isUntouched(b []byte, want []byte) bool {
	return isWithSpare(b, want, mark)
}

// spoil changes everything that a result may reach.
func spoil(b []byte) {
	b = b[:cap(b)]
	for i := range b {
		b[i] ^= 0xff
	}
}

func varint(n int) []byte {
	return binary.AppendUvarint(nil, uint64(n))
}

// edges holds the ends of each number of groups, and of the whole range.
func edges() []int {
	list := []int{0, 1, 2, 5, 127, 128, 129, 300, maxValue - 1, maxValue}
	for bits := 7; bits < 40; bits += 7 {
		list = append(list, 1<<bits-1, 1<<bits, 1<<bits+1)
	}
	return list
}

func unencodable() []int {
	return []int{-1, -128, math.MinInt, maxValue + 1, 1 << 40, 1 << 42, math.MaxInt}
}

func TestAppendUvarint(t *testing.T) {
	for _, c := range []struct {
		b    []byte
		n    int
		want []byte
	}{
		{nil, 0, []byte{0}},
		{nil, 1, []byte{1}},
		{nil, 127, []byte{127}},
		{nil, 128, []byte{128, 1}},
		{nil, 300, []byte{172, 2}},
		{nil, 16383, []byte{255, 127}},
		{nil, 16384, []byte{128, 128, 1}},
		{nil, 1<<35 - 1, []byte{255, 255, 255, 255, 127}},
		{nil, 1 << 35, []byte{128, 128, 128, 128, 128, 1}},
		{nil, maxValue, []byte{128, 160, 148, 165, 141, 29}},
		{[]byte{9, 200}, 300, []byte{9, 200, 172, 2}},
		{[]byte{}, 7, []byte{7}},
		{[]byte{9}, -1, []byte{9}},
		{[]byte{9}, maxValue + 1, []byte{9}},
	} {
		if got := impl.AppendUvarint(c.b, c.n); !bytes.Equal(got, c.want) {
			t.Errorf("AppendUvarint(%v, %d) = %v, want %v", c.b, c.n, got, c.want)
		}
	}
}

func TestAppendUvarintLeavesOutOtherIntegers(t *testing.T) {
	for _, n := range unencodable() {
		for _, b := range [][]byte{nil, {}, {0}, {1, 2, 3}} {
			if got := impl.AppendUvarint(b, n); !bytes.Equal(got, b) {
				t.Errorf("AppendUvarint(%v, %d) = %v", b, n, got)
			}
		}
	}
}

func TestReadUvarintInvertsAppendUvarint(t *testing.T) {
	check := func(n int) {
		b := impl.AppendUvarint([]byte{128, 128}, n)
		if !bytes.Equal(b[2:], varint(n)) {
			t.Errorf("AppendUvarint appends %v for %d", b[2:], n)
		}
		if got, next, ok := impl.ReadUvarint(append(b, 1), 2); !ok || got != n || next != len(b) {
			t.Errorf("ReadUvarint of %d = %d, %d, %v", n, got, next, ok)
		}
	}
	for _, n := range edges() {
		check(n)
	}
	for n := range 20000 {
		check(n)
		check(maxValue - n)
	}
	for n := 1; n < maxValue; n += n/7 + 1 {
		check(n)
	}
}

func TestReadUvarint(t *testing.T) {
	for _, c := range []struct {
		b       []byte
		offset  int
		n, next int
	}{
		{[]byte{0}, 0, 0, 1},
		{[]byte{172, 2}, 0, 300, 2},
		{[]byte{172, 2}, 1, 2, 2},
		{[]byte{172, 2, 0}, 2, 0, 3},
		{[]byte{0, 0}, 0, 0, 1},
		{[]byte{128, 1, 128}, 0, 128, 2},
		{[]byte{128, 128, 1}, 0, 16384, 3},
		{[]byte{128, 128, 128, 128, 128, 1}, 0, 1 << 35, 6},
		{[]byte{255, 255, 255, 255, 255, 1}, 0, 1<<36 - 1, 6},
		{[]byte{128, 160, 148, 165, 141, 29}, 0, maxValue, 6},
		{[]byte{255, 159, 148, 165, 141, 29}, 0, maxValue - 1, 6},
		{[]byte{7, 128, 160, 148, 165, 141, 29, 7}, 1, maxValue, 7},
	} {
		if n, next, ok := impl.ReadUvarint(c.b, c.offset); !ok || n != c.n || next != c.next {
			t.Errorf("ReadUvarint(%v, %d) = %d, %d, %v, want %d, %d, true", c.b, c.offset, n, next, ok, c.n, c.next)
		}
	}
}

func TestReadUvarintRejects(t *testing.T) {
	for _, c := range []struct {
		why    string
		b      []byte
		offset int
	}{
		{"no bytes", nil, 0},
		{"no bytes", []byte{}, 0},
		{"offset at the end", []byte{172, 2}, 2},
		{"offset beyond the end", []byte{172, 2}, 3},
		{"offset beyond the end", []byte{1}, math.MaxInt},
		{"offset negative", []byte{1}, -1},
		{"offset negative", []byte{1}, math.MinInt},
		{"offset beyond, but not in the capacity", []byte{1, 2, 3}[:1], 1},
		{"ends early", []byte{128}, 0},
		{"ends early", []byte{172}, 0},
		{"ends early", []byte{1, 2, 255}, 2},
		{"ends early", []byte{255, 255, 255, 255, 255}, 0},
		{"ends early, but not in the capacity", []byte{172, 2}[:1], 0},
		{"not minimal", []byte{128, 0}, 0},
		{"not minimal", []byte{129, 0}, 0},
		{"not minimal", []byte{255, 0, 1}, 0},
		{"not minimal", []byte{128, 128, 0}, 0},
		{"not minimal", []byte{172, 130, 0}, 0},
		{"not minimal", []byte{128, 128, 128, 128, 128, 0}, 0},
		{"not minimal", []byte{5, 128, 0}, 1},
		{"too great", []byte{129, 160, 148, 165, 141, 29}, 0},
		{"too great", []byte{128, 161, 148, 165, 141, 29}, 0},
		{"too great", []byte{128, 160, 148, 165, 141, 30}, 0},
		{"too great", []byte{255, 255, 255, 255, 255, 127}, 0},
		{"seven bytes", []byte{128, 128, 128, 128, 128, 128, 1}, 0},
		{"seven bytes", []byte{128, 160, 148, 165, 141, 157, 0}, 0},
		{"seven bytes", []byte{128, 128, 128, 128, 128, 128, 0}, 0},
		{"six bytes without a last one", []byte{255, 255, 255, 255, 255, 255}, 0},
		{"many bytes", append(bytes.Repeat([]byte{128}, 9), 1), 0},
		{"many bytes", bytes.Repeat([]byte{255}, 100), 0},
	} {
		if n, next, ok := impl.ReadUvarint(c.b, c.offset); ok || n != 0 || next != 0 {
			t.Errorf("%s: ReadUvarint(%v, %d) = %d, %d, %v", c.why, c.b, c.offset, n, next, ok)
		}
	}
}

// A varint is read exactly if it is what is written for some integer in the range.
func TestReadUvarintTakesExactlyWhatIsWritten(t *testing.T) {
	want := func(b []byte) (int, int, bool) {
		n, size := binary.Uvarint(b)
		if size <= 0 || n > maxValue || !bytes.Equal(b[:size], varint(int(n))) {
			return 0, 0, false
		}
		return int(n), size, true
	}
	texts := [][]byte{nil}
	for range 7 {
		var longer [][]byte
		for _, b := range texts {
			for _, c := range []byte{0, 1, 29, 128, 255} {
				longer = append(longer, append(bytes.Clone(b), c))
			}
		}
		for _, b := range longer {
			n, next, ok := impl.ReadUvarint(b, 0)
			if wantN, wantNext, wantOk := want(b); n != wantN || next != wantNext || ok != wantOk {
				t.Fatalf("ReadUvarint(%v, 0) = %d, %d, %v, want %d, %d, %v", b, n, next, ok, wantN, wantNext, wantOk)
			}
		}
		texts = longer
	}
}

func TestAppendBytesAndReadBytes(t *testing.T) {
	for _, size := range []int{0, 1, 2, 127, 128, 300, 16384} {
		data := make([]byte, size)
		for i := range data {
			data[i] = byte(i*7 + 130)
		}
		for _, b := range [][]byte{nil, {}, {5}, {128, 255}} {
			got := impl.AppendBytes(b, data)
			if want := slices.Concat(b, varint(size), data); !bytes.Equal(got, want) {
				t.Errorf("AppendBytes of %d bytes to %v is wrong", size, b)
			}
			for _, maxLen := range []int{size, size + 1, maxValue, math.MaxInt} {
				back, next, ok := impl.ReadBytes(append(got, 77), len(b), maxLen)
				if !ok || next != len(got) || !bytes.Equal(back, data) {
					t.Errorf("ReadBytes of %d bytes at %d, at most %d = %d bytes, %d, %v", size, len(b), maxLen, len(back), next, ok)
				}
			}
			if back, next, ok := impl.ReadBytes(got, len(b), size-1); ok || next != 0 || len(back) != 0 {
				t.Errorf("ReadBytes of %d bytes, at most %d = %v, %d, %v", size, size-1, back, next, ok)
			}
		}
	}
}

func TestReadBytesRejects(t *testing.T) {
	for _, c := range []struct {
		why    string
		b      []byte
		offset int
		maxLen int
	}{
		{"no prefix", nil, 0, 10},
		{"no prefix", []byte{1, 7}, 2, 10},
		{"no prefix", []byte{1, 7}, 3, 10},
		{"no prefix", []byte{1, 7}, math.MaxInt, 10},
		{"no prefix", []byte{1, 7}, -1, 10},
		{"no prefix", []byte{1, 7}, math.MinInt, 10},
		{"prefix ends early", []byte{129}, 0, 200},
		{"prefix not minimal", []byte{128, 0}, 0, 10},
		{"prefix not minimal", []byte{129, 0, 7}, 0, 10},
		{"prefix of seven bytes", []byte{128, 128, 128, 128, 128, 128, 1, 7}, 0, math.MaxInt},
		{"prefix too great", []byte{129, 160, 148, 165, 141, 29, 7}, 0, math.MaxInt},
		{"longer than allowed", []byte{2, 7, 8}, 0, 1},
		{"longer than allowed", []byte{1, 7}, 0, 0},
		{"longer than allowed", []byte{0}, 0, -1},
		{"longer than allowed", []byte{0}, 0, math.MinInt},
		{"too short", []byte{1}, 0, 10},
		{"too short", []byte{3, 7, 8}, 0, 10},
		{"too short, but not in the capacity", []byte{3, 7, 8, 9}[:3], 0, 10},
		{"too short", []byte{0, 2, 8}, 1, 10},
		{"too short", []byte{128, 160, 148, 165, 141, 29, 7}, 0, math.MaxInt},
	} {
		if data, next, ok := impl.ReadBytes(c.b, c.offset, c.maxLen); ok || next != 0 || len(data) != 0 {
			t.Errorf("%s: ReadBytes(%v, %d, %d) = %v, %d, %v", c.why, c.b, c.offset, c.maxLen, data, next, ok)
		}
	}
}

func TestReadBytesReadsOneAfterTheOther(t *testing.T) {
	parts := [][]byte{{1, 2, 3}, {}, {128}, {0, 0}}
	b := []byte{}
	for _, part := range parts {
		b = impl.AppendBytes(b, part)
	}
	offset := 0
	for _, part := range parts {
		data, next, ok := impl.ReadBytes(b, offset, 3)
		if !ok || !bytes.Equal(data, part) {
			t.Errorf("ReadBytes at %d = %v, %v, want %v", offset, data, ok, part)
		}
		offset = next
	}
	if offset != len(b) {
		t.Errorf("the parts end at %d of %d", offset, len(b))
	}
}

func TestEncodeInts(t *testing.T) {
	for _, c := range []struct {
		values []int
		want   []byte
	}{
		{nil, nil},
		{[]int{}, nil},
		{[]int{5, 300}, []byte{5, 172, 2}},
		{[]int{0, 0}, []byte{0, 0}},
		{[]int{maxValue, 1}, []byte{128, 160, 148, 165, 141, 29, 1}},
		{[]int{-1}, nil},
		{[]int{maxValue + 1}, nil},
		{[]int{-1, 5, maxValue + 1, 300, math.MinInt, math.MaxInt, 7}, []byte{5, 172, 2, 7}},
	} {
		if got := impl.EncodeInts(c.values); !bytes.Equal(got, c.want) {
			t.Errorf("EncodeInts(%v) = %v, want %v", c.values, got, c.want)
		}
	}
}

// The limit of DecodeInts does not hold for EncodeInts.
func TestEncodeIntsTakesManyIntegers(t *testing.T) {
	var values []int
	var want []byte
	for i := range 50000 {
		values = append(values, i*i)
		want = append(want, varint(i*i)...)
	}
	if !bytes.Equal(impl.EncodeInts(values), want) {
		t.Error("many integers are encoded wrongly")
	}
}

func TestDecodeIntsInvertsEncodeInts(t *testing.T) {
	for count := range 101 {
		all := edges()
		values := make([]int, count)
		for i := range values {
			values[i] = all[(i*i+count)%len(all)]
		}
		b := append([]byte{128, 200}, impl.EncodeInts(values)...)
		got, next, ok := impl.DecodeInts(append(b, 3), 2, count)
		if !ok || next != len(b) || !slices.Equal(got, values) {
			t.Errorf("DecodeInts of %v = %v, %d, %v", values, got, next, ok)
		}
	}
}

func TestDecodeInts(t *testing.T) {
	for _, c := range []struct {
		b             []byte
		offset, count int
		want          []int
		next          int
	}{
		{nil, 0, 0, nil, 0},
		{[]byte{5, 172, 2}, 0, 2, []int{5, 300}, 3},
		{[]byte{5, 172, 2}, 0, 1, []int{5}, 1},
		{[]byte{5, 172, 2}, 1, 1, []int{300}, 3},
		{[]byte{5, 172, 2}, 2, 1, []int{2}, 3},
		{[]byte{5, 172, 2}, 0, 0, nil, 0},
		{[]byte{5, 172, 2}, 1, 0, nil, 1},
		{[]byte{5, 172, 2}, 3, 0, nil, 3},
		{[]byte{128}, 1, 0, nil, 1},
		{[]byte{128, 0}, 0, 0, nil, 0},
		{make([]byte, 101), 0, 100, make([]int, 100), 100},
		{make([]byte, 101), 1, 100, make([]int, 100), 101},
	} {
		if got, next, ok := impl.DecodeInts(c.b, c.offset, c.count); !ok || next != c.next || !slices.Equal(got, c.want) {
			t.Errorf("DecodeInts(%v, %d, %d) = %v, %d, %v, want %v, %d, true", c.b, c.offset, c.count, got, next, ok, c.want, c.next)
		}
	}
}

func TestDecodeIntsRejects(t *testing.T) {
	long := make([]byte, 200)
	for _, c := range []struct {
		why           string
		b             []byte
		offset, count int
	}{
		{"count negative", long, 0, -1},
		{"count negative", long, 0, math.MinInt},
		{"count negative", nil, 0, -1},
		{"count too great", long, 0, 101},
		{"count too great", long, 0, math.MaxInt},
		{"offset negative", long, -1, 1},
		{"offset negative", long, -1, 0},
		{"offset negative", long, math.MinInt, 0},
		{"offset beyond the end", []byte{5, 172, 2}, 4, 0},
		{"offset beyond the end", []byte{5, 172, 2}, 4, 1},
		{"offset beyond the end", nil, 1, 0},
		{"offset beyond the end", nil, math.MaxInt, 0},
		{"offset beyond, but not in the capacity", long[:3], 4, 0},
		{"too few", nil, 0, 1},
		{"too few", []byte{5, 172, 2}, 0, 3},
		{"too few", []byte{5, 172, 2}, 3, 1},
		{"too few", long[:99], 0, 100},
		{"too few", long, 101, 100},
		{"last ends early", []byte{5, 172}, 0, 2},
		{"first not minimal", []byte{128, 0, 5}, 0, 2},
		{"second not minimal", []byte{5, 128, 0, 5}, 0, 3},
		{"last not minimal", []byte{5, 5, 128, 0}, 0, 3},
		{"too great", []byte{5, 129, 160, 148, 165, 141, 29, 5}, 0, 3},
		{"seven bytes", []byte{5, 128, 128, 128, 128, 128, 128, 1, 5}, 0, 3},
	} {
		if got, next, ok := impl.DecodeInts(c.b, c.offset, c.count); ok || next != 0 || len(got) != 0 {
			t.Errorf("%s: DecodeInts(%v, %d, %d) = %v, %d, %v", c.why, c.b, c.offset, c.count, got, next, ok)
		}
	}
}

func TestEqualBytes(t *testing.T) {
	for _, c := range []struct {
		a, b []byte
		want bool
	}{
		{nil, nil, true},
		{nil, []byte{}, true},
		{[]byte{}, nil, true},
		{[]byte{}, []byte{}, true},
		{[]byte{1, 2}, []byte{1, 2}, true},
		{[]byte{1, 2}, []byte{1, 2, 3}[:2], true},
		{nil, []byte{0}, false},
		{[]byte{0}, nil, false},
		{[]byte{1, 2}, []byte{1, 2, 0}, false},
		{[]byte{1, 2, 0}, []byte{1, 2}, false},
		{[]byte{1, 2}, []byte{1, 3}, false},
		{[]byte{1, 2}, []byte{2, 1}, false},
		{[]byte{128}, []byte{0}, false},
	} {
		if got := impl.EqualBytes(c.a, c.b); got != c.want {
			t.Errorf("EqualBytes(%v, %v) = %v", c.a, c.b, got)
		}
	}
}

func TestAppendingLeavesTheArguments(t *testing.T) {
	for _, content := range [][]byte{{}, {9}, {1, 2, 3}} {
		for _, n := range []int{0, 300, maxValue, -1, maxValue + 1} {
			b := spared(content)
			got := impl.AppendUvarint(b, n)
			if !isUntouched(b, content) {
				t.Errorf("AppendUvarint(%v, %d) changes its argument", content, n)
			}
			spoil(got)
			if !isUntouched(b, content) {
				t.Errorf("AppendUvarint(%v, %d) shares memory with its argument", content, n)
			}
		}
		for _, more := range [][]byte{{}, {7, 8}, make([]byte, 200)} {
			b, data := spared(content), spared(more)
			got := impl.AppendBytes(b, data)
			if !bytes.Equal(got, slices.Concat(content, varint(len(more)), more)) {
				t.Errorf("AppendBytes(%v, %v) = %v", content, more, got)
			}
			spoil(got)
			if !isUntouched(b, content) || !isUntouched(data, more) {
				t.Errorf("AppendBytes(%v, %v) changes an argument or shares memory", content, more)
			}
		}
	}
}

// The data may be the slice itself to which it is appended.
func TestAppendBytesToTheSameMemory(t *testing.T) {
	b := spared([]byte{1, 2, 3})
	if got := impl.AppendBytes(b[:1], b[1:]); !bytes.Equal(got, []byte{1, 2, 2, 3}) {
		t.Errorf("appending a part of the same memory gives %v", got)
	}
	if got := impl.AppendBytes(b, b); !bytes.Equal(got, []byte{1, 2, 3, 3, 1, 2, 3}) {
		t.Errorf("appending a slice to itself gives %v", got)
	}
	if !isUntouched(b, []byte{1, 2, 3}) {
		t.Error("appending changes the argument")
	}
}

func TestReadingLeavesTheArguments(t *testing.T) {
	content := []byte{1, 2, 7, 8, 0, 172, 2}
	b := spared(content)
	for offset := -1; offset <= len(b)+1; offset++ {
		impl.ReadUvarint(b, offset)
		impl.EqualBytes(b, content)
		data, _, _ := impl.ReadBytes(b, offset, 5)
		again, _, _ := impl.ReadBytes(b, offset, 5)
		want := bytes.Clone(data)
		spoil(again)
		if !bytes.Equal(data, want) || !isUntouched(b, content) {
			t.Fatalf("a result of ReadBytes at %d shares memory", offset)
		}
		for count := -1; count <= 8; count++ {
			impl.DecodeInts(b, offset, count)
		}
		if !isUntouched(b, content) {
			t.Fatalf("reading at %d changes the argument", offset)
		}
	}
}

func TestCodingIntegersSharesNoMemory(t *testing.T) {
	whole := []int{5, -1, 300, 77, 77}
	first, second := impl.EncodeInts(whole[:3]), impl.EncodeInts(whole[:3])
	spoil(first)
	if !bytes.Equal(second, []byte{5, 172, 2}) || !slices.Equal(whole, []int{5, -1, 300, 77, 77}) {
		t.Error("EncodeInts shares memory or changes its argument")
	}
	one, _, _ := impl.DecodeInts(second, 0, 2)
	other, _, _ := impl.DecodeInts(second, 0, 2)
	clear(one[:cap(one)])
	if !slices.Equal(other, []int{5, 300}) {
		t.Error("two results of DecodeInts share memory")
	}
}
