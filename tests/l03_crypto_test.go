package tests

import (
	"bytes"
	"math"
	"math/big"
	"slices"
	"strings"
	"testing"

	"loop.example/g00594/impl"
)

const modulus = 2147483647

// bigHash is the hash of the document, in integers without a range.
func bigHash(values []int) int {
	factor, m := big.NewInt(1000003), big.NewInt(modulus)
	sum := big.NewInt(11)
	for _, v := range values {
		rest := new(big.Int).Mod(big.NewInt(int64(v)), m)
		sum.Mul(sum, factor).Add(sum, rest).Add(sum, big.NewInt(13)).Mod(sum, m)
	}
	return int(sum.Int64())
}

func bigKeyedHash(key int, values ...int) int {
	return bigHash(slices.Concat([]int{key}, values, []int{key}))
}

// atTheEnds holds the ends of the ranges of a value or a key.
func atTheEnds() []int {
	return []int{
		0, 1, 2, 5, -1, -2, 12345, -12345,
		modulus - 1, modulus, modulus + 1, -modulus - 1, -modulus, -modulus + 1,
		2*modulus - 1, 2 * modulus, 2*modulus + 1,
		maxValue - 1, maxValue, maxValue + 1, -maxValue, 1 << 31, 1 << 32,
		math.MaxInt, math.MaxInt - 1, math.MinInt, math.MinInt + 1,
	}
}

// someSequences holds sequences of several lengths, with the values at the ends at every place.
func someSequences() [][]int {
	list := [][]int{nil, {}, {1, 2}, {2, 1}, {0, 0}, {0, 0, 0}, {-5, 7, -9}, atTheEnds()}
	for _, v := range atTheEnds() {
		list = append(list, []int{v}, []int{v, 3}, []int{3, v}, []int{v, v}, []int{v, 0, v})
	}
	return list
}

func someTexts() [][]byte {
	all := make([]byte, 256)
	for i := range all {
		all[i] = byte(i)
	}
	return [][]byte{
		nil, {}, {0}, {255}, {128}, {0, 0, 0}, {0, 255}, {255, 0}, []byte("hello"), all,
		bytes.Repeat([]byte{0}, 700), bytes.Repeat([]byte{255}, 700),
	}
}

func sparedInts(values []int) []int {
	return withSpare(values, mark)
}

func areUntouched(values []int, want []int) bool {
	return isWithSpare(values, want, mark)
}

// spoilInts changes everything that a result may reach.
func spoilInts(values []int) {
	values = values[:cap(values)]
	for i := range values {
		values[i] += 1000
	}
}

func TestModulus(t *testing.T) {
	if impl.Modulus != modulus {
		t.Errorf("Modulus is %d", impl.Modulus)
	}
}

func TestHash(t *testing.T) {
	for _, c := range []struct {
		values []int
		want   int
	}{
		{nil, 11},
		{[]int{}, 11},
		{[]int{0}, 11000046},
		{[]int{1}, 11000047},
		{[]int{5}, 11000051},
		{[]int{-1}, 11000045},
		{[]int{modulus - 1}, 11000045},
		{[]int{modulus}, 11000046},
		{[]int{modulus + 1}, 11000047},
		{[]int{-modulus + 1}, 11000047},
		{[]int{-modulus}, 11000046},
		{[]int{-modulus - 1}, 11000045},
		{[]int{2 * modulus}, 11000046},
		{[]int{maxValue}, 1431104191},
		{[]int{math.MinInt}, 11000044},
		{[]int{math.MaxInt}, 11000047},
		{[]int{2136483601}, 0},
		{[]int{2136483600}, modulus - 1},
		{[]int{0, 0}, 667760217},
		{[]int{1, 2}, 668760222},
		{[]int{2, 1}, 669760224},
		{[]int{3, 4, 3}, 20107550},
		{[]int{-5, 7, -9}, 1499176197},
		{[]int{math.MinInt, math.MaxInt}, 665760212},
	} {
		if got := impl.Hash(c.values); got != c.want {
			t.Errorf("Hash(%v) = %d, want %d", c.values, got, c.want)
		}
	}
}

func TestHashFoldsEverySequence(t *testing.T) {
	for _, values := range someSequences() {
		got := impl.Hash(values)
		if got != bigHash(values) || got < 0 || got >= modulus {
			t.Errorf("Hash(%v) = %d, want %d", values, got, bigHash(values))
		}
	}
	long := make([]int, 3000)
	for i := range long {
		long[i] = (i - 1500) * maxValue
	}
	if got := impl.Hash(long); got != bigHash(long) {
		t.Errorf("the hash of a long sequence is %d, want %d", got, bigHash(long))
	}
}

func TestHashIsThatOfTheRemainders(t *testing.T) {
	for _, v := range []int{0, 1, 5, modulus - 1} {
		for _, turns := range []int{-4294967298, -2, -1, 1, 2, 4294967297} {
			other := v + turns*modulus
			if impl.Hash([]int{v}) != impl.Hash([]int{other}) || impl.Hash([]int{4, v, 4}) != impl.Hash([]int{4, other, 4}) {
				t.Errorf("the hashes of %d and %d differ", v, other)
			}
		}
	}
}

func TestKeyedHash(t *testing.T) {
	for _, c := range []struct {
		key    int
		values []int
		want   int
	}{
		{3, []int{4}, 20107550},
		{77, []int{1}, 322116308},
		{1, nil, 668760221},
		{1, []int{}, 668760221},
		{0, nil, 667760217},
		{0, []int{0}, 32762367},
		{modulus - 1, nil, 666760213},
		{modulus, nil, 667760217},
		{-1, nil, 666760213},
		{-1, []int{math.MinInt, 0, math.MaxInt}, 2121624481},
		{1310415589, []int{0}, 0},
		{288271861, []int{0}, modulus - 1},
	} {
		if got := impl.KeyedHash(c.key, c.values); got != c.want {
			t.Errorf("KeyedHash(%d, %v) = %d, want %d", c.key, c.values, got, c.want)
		}
	}
}

func TestKeyedHashHasTheKeyAtBothEnds(t *testing.T) {
	for _, key := range atTheEnds() {
		for _, values := range someSequences() {
			got := impl.KeyedHash(key, values)
			if got != bigKeyedHash(key, values...) || got < 0 || got >= modulus {
				t.Errorf("KeyedHash(%d, %v) = %d, want %d", key, values, got, bigKeyedHash(key, values...))
			}
		}
	}
}

// As Modulus is a prime, another remainder at one place always gives another hash.
func TestKeyedHashDependsOnEachValue(t *testing.T) {
	values := []int{3, 0, -7, modulus - 1, maxValue, 255, 1, 1, 1}
	for _, key := range []int{1, 77, modulus - 1} {
		want := impl.KeyedHash(key, values)
		for i, v := range values {
			for _, change := range []int{1, -1, 2, 13, 256, 1000003, modulus - 1, modulus + 1} {
				changed := slices.Clone(values)
				changed[i] = v + change
				if impl.KeyedHash(key, changed) == want {
					t.Errorf("key %d: another value at %d gives the same hash", key, i)
				}
			}
			if impl.KeyedHash(key, slices.Delete(slices.Clone(values), i, i+1)) == want {
				t.Errorf("key %d: without the value at %d the hash is the same", key, i)
			}
		}
		if impl.KeyedHash(key, append(slices.Clone(values), 0)) == want {
			t.Errorf("key %d: with a further value the hash is the same", key)
		}
	}
}

func TestKeyedHashDependsOnTheKeyAndTheOrder(t *testing.T) {
	met := map[int]int{}
	for key := 1; key < 2000; key++ {
		h := impl.KeyedHash(key, []int{4, 5})
		if other, ok := met[h]; ok {
			t.Errorf("the keys %d and %d give the same hash", other, key)
		}
		met[h] = key
		if h == impl.KeyedHash(key, []int{5, 4}) {
			t.Errorf("key %d: the hash does not depend on the order", key)
		}
	}
}

func TestIsValidKey(t *testing.T) {
	for _, key := range []int{1, 2, 77, 1 << 30, modulus - 2, modulus - 1} {
		if !impl.IsValidKey(key) {
			t.Errorf("%d is not a key", key)
		}
	}
	for _, key := range []int{0, -1, -77, modulus, modulus + 1, -modulus, -modulus + 1, 2*modulus + 1, 1 << 32, maxValue, math.MaxInt, math.MinInt, math.MinInt + 1} {
		if impl.IsValidKey(key) {
			t.Errorf("%d is a key", key)
		}
	}
}

func TestBytesToInts(t *testing.T) {
	for _, c := range []struct {
		b    []byte
		want []int
	}{
		{nil, []int{0}},
		{[]byte{}, []int{0}},
		{[]byte{0}, []int{1, 0}},
		{[]byte{255}, []int{1, 255}},
		{[]byte{128}, []int{1, 128}},
		{[]byte{9, 8}, []int{2, 9, 8}},
		{[]byte{0, 0, 0}, []int{3, 0, 0, 0}},
		{[]byte{0, 255, 127, 128}, []int{4, 0, 255, 127, 128}},
		{[]byte{1, 2, 3}[:1], []int{1, 1}},
	} {
		if got := impl.BytesToInts(c.b); !slices.Equal(got, c.want) {
			t.Errorf("BytesToInts(%v) = %v, want %v", c.b, got, c.want)
		}
	}
	for _, b := range someTexts() {
		got := impl.BytesToInts(b)
		if len(got) != len(b)+1 || got[0] != len(b) {
			t.Fatalf("BytesToInts of %d bytes has %d integers", len(b), len(got))
		}
		for i, c := range b {
			if got[i+1] != int(c) {
				t.Errorf("BytesToInts has %d for the byte %d", got[i+1], c)
			}
		}
	}
}

func TestEncrypt(t *testing.T) {
	ends := []byte{0, 255, 128, 1}
	for _, c := range []struct {
		key        int
		plaintext  []byte
		ciphertext []byte
	}{
		{77, []byte("hello"), []byte{249, 57, 131, 198, 12}},
		{77, ends, []byte{145, 211, 151, 91}},
		{1, ends, []byte{90, 156, 96, 36}},
		{modulus - 1, ends, []byte{163, 229, 169, 109}},
		{0, ends, []byte{255, 65, 5, 201}},
		{modulus, ends, []byte{255, 65, 5, 201}},
		{-1, ends, []byte{163, 229, 169, 109}},
		{math.MinInt, ends, []byte{71, 137, 77, 17}},
		{math.MaxInt, ends, []byte{90, 156, 96, 36}},
		{77, nil, nil},
		{0, []byte{}, nil},
	} {
		if got := impl.Encrypt(c.key, c.plaintext); !bytes.Equal(got, c.ciphertext) {
			t.Errorf("Encrypt(%d, %v) = %v, want %v", c.key, c.plaintext, got, c.ciphertext)
		}
		if got := impl.Decrypt(c.key, c.ciphertext); !bytes.Equal(got, c.plaintext) {
			t.Errorf("Decrypt(%d, %v) = %v, want %v", c.key, c.ciphertext, got, c.plaintext)
		}
	}
}

func TestEncryptAddsAndDecryptSubtractsTheStream(t *testing.T) {
	for _, key := range atTheEnds() {
		for _, text := range someTexts() {
			more, less := impl.Encrypt(key, text), impl.Decrypt(key, text)
			if len(more) != len(text) || len(less) != len(text) {
				t.Fatalf("key %d: %d bytes become %d and %d", key, len(text), len(more), len(less))
			}
			for i, c := range text {
				shift := bigKeyedHash(key, i) % 256
				if int(more[i]) != (int(c)+shift)%256 || int(less[i]) != (int(c)+256-shift)%256 {
					t.Errorf("key %d: the byte %d at %d becomes %d and %d", key, c, i, more[i], less[i])
				}
			}
		}
	}
}

func TestEncryptAndDecryptInvertEachOther(t *testing.T) {
	for _, key := range append(atTheEnds(), 77, 1000003, 1310415589) {
		for _, text := range someTexts() {
			if got := impl.Decrypt(key, impl.Encrypt(key, text)); !bytes.Equal(got, text) {
				t.Errorf("key %d: %v encrypted and decrypted is %v", key, text, got)
			}
			if got := impl.Encrypt(key, impl.Decrypt(key, text)); !bytes.Equal(got, text) {
				t.Errorf("key %d: %v decrypted and encrypted is %v", key, text, got)
			}
		}
	}
}

func TestEveryByteAtEveryPlaceIsGotBack(t *testing.T) {
	for value := range 256 {
		text := bytes.Repeat([]byte{byte(value)}, 300)
		hidden := impl.Encrypt(77, text)
		if bytes.Equal(hidden, text) || !bytes.Equal(impl.Decrypt(77, hidden), text) {
			t.Errorf("bytes %d are not encrypted, or not got back", value)
		}
		if bytes.Equal(impl.Decrypt(78, hidden), text) {
			t.Errorf("bytes %d are got back with another key", value)
		}
	}
}

func TestDeriveFromString(t *testing.T) {
	for _, c := range []struct {
		key   int
		label string
		want  int
	}{
		{5, "ab", 1905036959},
		{5, "", 720832201},
		{1, "", 1458866522},
		{modulus - 1, "", 754141859},
		{0, "", 32762367},
		{modulus, "", 32762367},
		{-1, "", 754141859},
		{5, "\xff\x00", 1645710062},
		{5, "\u00e9", 323562},
		{185075670, "", 1},
		{1207219398, "", 2},
		{288271861, "", modulus - 1},
		{1778320862, "ab", 1},
		{53829062, "ab", modulus - 1},
	} {
		if got := impl.DeriveFromString(c.key, c.label); got != c.want {
			t.Errorf("DeriveFromString(%d, %q) = %d, want %d", c.key, c.label, got, c.want)
		}
	}
}

func TestDeriveFromStringWhereTheHashIsZero(t *testing.T) {
	for _, c := range []struct {
		key   int
		label string
	}{
		{1310415589, ""},
		{916074962, "ab"},
		{113566815, "\x00"},
		{757200574, "\xff\x80"},
		{971690925, "label"},
	} {
		for _, key := range []int{c.key, c.key + modulus, c.key - modulus} {
			if h := impl.KeyedHash(key, impl.BytesToInts([]byte(c.label))); h != 0 {
				t.Errorf("the keyed hash of %q under %d is %d", c.label, key, h)
			}
			if got := impl.DeriveFromString(key, c.label); got != 1 {
				t.Errorf("DeriveFromString(%d, %q) = %d, want 1", key, c.label, got)
			}
		}
	}
}

func TestDeriveFromStringGivesAKeyForAllArguments(t *testing.T) {
	labels := []string{"", "a", "b", "ab", "ba", "a\x00", "\x00", "\xff", "\xc3", "\u00e9", "\U0001f511", strings.Repeat("long ", 100)}
	for _, key := range atTheEnds() {
		for _, label := range labels {
			values := []int{len(label)}
			for i := range len(label) {
				values = append(values, int(label[i]))
			}
			got := impl.DeriveFromString(key, label)
			if got != bigKeyedHash(key, values...) || !impl.IsValidKey(got) {
				t.Errorf("DeriveFromString(%d, %q) = %d", key, label, got)
			}
		}
	}
}

func TestEqualIntsComparesEachElement(t *testing.T) {
	values := atTheEnds()
	if !impl.EqualInts(values, atTheEnds()) {
		t.Error("equal slices differ")
	}
	for i := range values {
		for _, change := range []int{1, -1, 256, 1 << 32, math.MinInt} {
			changed := slices.Clone(values)
			changed[i] += change
			if impl.EqualInts(values, changed) || impl.EqualInts(changed, values) {
				t.Errorf("slices that differ at %d only are equal", i)
			}
		}
		if impl.EqualInts(values, values[:i]) || impl.EqualInts(values[:i], values) {
			t.Errorf("a slice equals its first %d elements", i)
		}
	}
}

func TestHashingLeavesTheArguments(t *testing.T) {
	for _, content := range [][]int{{}, {7}, {1, -2, modulus, math.MinInt}} {
		values := sparedInts(content)
		impl.Hash(values)
		impl.KeyedHash(99, values)
		impl.EqualInts(values, values[:0])
		if !areUntouched(values, content) {
			t.Errorf("hashing %v changes it", content)
		}
	}
}

func TestCipherSharesNoMemory(t *testing.T) {
	for _, cipher := range []func(int, []byte) []byte{impl.Encrypt, impl.Decrypt} {
		for _, content := range [][]byte{{}, {0}, {255, 0, 128}} {
			for _, key := range []int{77, 0, -1, modulus} {
				b := spared(content)
				one, other := cipher(key, b), cipher(key, b)
				want := bytes.Clone(other)
				spoil(one)
				if !isUntouched(b, content) || !bytes.Equal(other, want) {
					t.Errorf("key %d: a cipher of %v changes it or shares memory", key, content)
				}
			}
		}
	}
}

func TestBytesToIntsSharesNoMemory(t *testing.T) {
	b := spared([]byte{9, 8})
	one, other := impl.BytesToInts(b), impl.BytesToInts(b)
	clear(one[:cap(one)])
	if !isUntouched(b, []byte{9, 8}) || !slices.Equal(other, []int{2, 9, 8}) {
		t.Error("BytesToInts changes its argument or shares memory")
	}
}

func TestEqualInts(t *testing.T) {
	for _, c := range []struct {
		a, b []int
		want bool
	}{
		{nil, nil, true},
		{nil, []int{}, true},
		{[]int{}, nil, true},
		{[]int{5, 300}, []int{5, 300}, true},
		{[]int{5, 300}, []int{5, 300, 7}[:2], true},
		{[]int{math.MinInt, math.MaxInt}, []int{math.MinInt, math.MaxInt}, true},
		{nil, []int{0}, false},
		{[]int{0}, nil, false},
		{[]int{5, 300}, []int{5, 300, 0}, false},
		{[]int{5, 300, 0}, []int{5, 300}, false},
		{[]int{5, 300}, []int{5, 301}, false},
		{[]int{5, 300}, []int{300, 5}, false},
		{[]int{-1}, []int{1}, false},
		{[]int{0}, []int{1 << 32}, false},
	} {
		if got := impl.EqualInts(c.a, c.b); got != c.want {
			t.Errorf("EqualInts(%v, %v) = %v", c.a, c.b, got)
		}
	}
}
