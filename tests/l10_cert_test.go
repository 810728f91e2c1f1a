package tests

import (
	"math"
	"slices"
	"testing"

	"loop.example/g00594/impl"
)

const maxSpan = 50

// someCerts holds valid certificates that are not marked yet: every kind of name, and spans at both ends of the times.
func someCerts() []impl.Cert {
	return []impl.Cert{
		{Serial: 1, Subject: 20, Key: 200, From: 5, Until: 15},
		{Serial: 1, Subject: 10, Key: 1, From: 0, Until: 0},
		{Serial: 9999, Subject: 49, Key: modulus - 1, From: maxTime, Until: maxTime},
		{Serial: 500, Subject: 30, Key: 12345, From: 0, Until: maxSpan},
		{Serial: 9998, Subject: 19, Key: 2, From: maxTime - maxSpan, Until: maxTime},
		{Serial: 42, Subject: 39, Key: 99, From: 100, Until: 101},
		{Serial: 2, Subject: 29, Key: modulus - 2, From: maxTime - 1, Until: maxTime},
		{Serial: 77, Subject: 40, Key: 7, From: 300, Until: 300},
		{Serial: 3, Subject: 15, Key: 300, From: 1000, Until: 1000 + maxSpan},
	}
}

func noSerials() []int {
	return []int{0, 10000, -1, -2, -9999, 10001, 20000, modulus, modulus + 1, 1 << 32, 1<<32 + 1, math.MinInt, math.MinInt + 1, math.MaxInt}
}

// noSpans holds pairs of a From and an Until that no certificate has; the differences of some of them wrap around.
func noSpans() [][2]int {
	return [][2]int{
		{6, 5}, {1, 0}, {maxTime, maxTime - 1}, {maxTime, 0}, {50, 0}, {100, 49},
		{-1, 5}, {-1, -1}, {-1, 0}, {-50, 0}, {-10, 10}, {-5, -3}, {0, -1}, {5, -1},
		{0, 51}, {5, 56}, {maxTime - 51, maxTime}, {0, maxTime}, {100, 1000},
		{maxTime, maxTime + 1}, {maxTime - 10, maxTime + 1}, {maxTime - 50, maxTime + 1}, {maxTime + 1, maxTime + 1}, {maxTime + 1, 0}, {maxTime + 5, maxTime + 9}, {maxTime + 1, maxTime},
		{math.MinInt, math.MaxInt}, {math.MaxInt, math.MinInt}, {math.MaxInt - 9, math.MinInt + 9}, {math.MinInt, math.MinInt}, {math.MaxInt, math.MaxInt},
		{0, math.MinInt}, {5, math.MaxInt}, {math.MinInt, 0}, {math.MaxInt, 5}, {math.MinInt + 5, 10}, {math.MaxInt, maxTime}, {math.MaxInt - 10, math.MaxInt},
		{1 << 32, 1<<32 + 5}, {1 << 32, 5}, {5, 1<<32 + 5},
	}
}

// noCerts holds certificates that are not valid, each for one reason only.
func noCerts() []impl.Cert {
	var l []impl.Cert
	for _, serial := range noSerials() {
		l = append(l, impl.Cert{Serial: serial, Subject: 20, Key: 200, From: 5, Until: 15})
	}
	for _, subject := range noNames() {
		l = append(l, impl.Cert{Serial: 1, Subject: subject, Key: 200, From: 5, Until: 15})
	}
	for _, key := range noKeysOfIssuers() {
		l = append(l, impl.Cert{Serial: 1, Subject: 20, Key: key, From: 5, Until: 15})
	}
	for _, span := range noSpans() {
		l = append(l, impl.Cert{Serial: 1, Subject: 20, Key: 200, From: span[0], Until: span[1]})
	}
	return l
}

// withMark is the certificate as the holder of this secret marks it, whether it is valid or not.
func withMark(secret int, x impl.Cert) impl.Cert {
	x.Mark = bigKeyedHash(secret, x.Serial, x.Subject, x.Key, x.From, x.Until)
	return x
}

// changedCerts adds d to one part each; the last one of them has another Mark only.
func changedCerts(x impl.Cert, d int) []impl.Cert {
	l := slices.Repeat([]impl.Cert{x}, 6)
	l[0].Serial += d
	l[1].Subject += d
	l[2].Key += d
	l[3].From += d
	l[4].Until += d
	l[5].Mark += d
	return l
}

// either is y if this part is in the set, and x otherwise.
func either(set, part, x, y int) int {
	if set>>part&1 == 1 {
		return y
	}
	return x
}

// timesAround holds the times at and next to both ends of the spans of these certificates, and those at the ends of all times.
func timesAround(certs ...impl.Cert) []int {
	times := append(timesAtTheEnds(), noTimes()...)
	for _, x := range certs {
		times = append(times, x.From-1, x.From, x.From+1, x.Until-1, x.Until, x.Until+1, x.From/2+x.Until/2)
	}
	return times
}

func nonces() []int {
	return append(atTheEnds(), 3, 4, 77, -77, 5000, modulus+3, modulus-3, -modulus+3, 3*modulus+3)
}

// noAnswersBeside holds numbers near the answer, and some that are like it.
func noAnswersBeside(answer int) []int {
	var l []int
	for _, n := range []int{
		answer - 1, answer + 1, answer - 2, answer + 2, answer - modulus, answer + modulus, answer + 2*modulus, -answer, modulus - answer, answer * 2,
		answer + 1<<32, answer ^ 1<<30, answer + math.MinInt, answer * modulus, 0, 1, 11, -1, modulus - 1, modulus, math.MinInt, math.MaxInt,
	} {
		if n != answer {
			l = append(l, n)
		}
	}
	return l
}

func TestMaxSpan(t *testing.T) {
	if impl.MaxSpan != maxSpan {
		t.Errorf("MaxSpan is %d", impl.MaxSpan)
	}
}

func TestIsCert(t *testing.T) {
	for _, x := range someCerts() {
		for _, m := range append(atTheEnds(), mark, withMark(7, x).Mark) {
			x.Mark = m
			if !impl.IsCert(x) {
				t.Errorf("%v is none", x)
			}
		}
	}
	for _, x := range append(noCerts(), impl.Cert{}, impl.Cert{Mark: 5}, impl.Cert{Serial: 1, Subject: 20, Key: 200, From: 6}, impl.Cert{Serial: -1, Subject: -1, Key: -1, From: -1, Until: -1, Mark: -1}) {
		for _, y := range []impl.Cert{x, withMark(7, x)} {
			if impl.IsCert(y) {
				t.Errorf("%v is a certificate", y)
			}
		}
	}
}

// Each reason is enough by itself, whatever the other parts are.
func TestWhatIsNoCert(t *testing.T) {
	check := func(x impl.Cert) {
		if impl.IsCert(x) {
			t.Errorf("%v is a certificate", x)
		}
	}
	for _, good := range someCerts() {
		for _, serial := range noSerials() {
			x := good
			x.Serial = serial
			check(x)
		}
		for _, subject := range noNames() {
			x := good
			x.Subject = subject
			check(x)
		}
		for _, key := range noKeysOfIssuers() {
			x := good
			x.Key = key
			check(x)
		}
		for _, span := range noSpans() {
			x := good
			x.From, x.Until = span[0], span[1]
			check(x)
		}
	}
}

func TestIsCertWithEverySerialAndSubject(t *testing.T) {
	for _, good := range someCerts() {
		for serial := -10; serial <= 10100; serial++ {
			x := good
			x.Serial = serial
			if want := 1 <= serial && serial <= 9999; impl.IsCert(x) != want {
				t.Errorf("IsCert(%v) = %v", x, !want)
			}
		}
		for subject := -100; subject <= 600; subject++ {
			x := good
			x.Subject = subject
			if want := 10 <= subject && subject <= 49; impl.IsCert(x) != want {
				t.Errorf("IsCert(%v) = %v", x, !want)
			}
		}
		for _, key := range append(keysOfIssuers(), 3, 1000, modulus/2, 1<<30) {
			x := good
			x.Key = key
			if !impl.IsCert(x) {
				t.Errorf("%v is none", x)
			}
		}
	}
}

// Every pair of a From and an Until around both ends of the times.
func TestIsCertWithEverySpan(t *testing.T) {
	var times []int
	for i := -3; i <= 60; i++ {
		times = append(times, i, 5000+i, maxTime-i)
	}
	times = append(times, math.MinInt, math.MaxInt)
	for _, from := range times {
		for _, until := range times {
			x := impl.Cert{Serial: 8, Subject: 31, Key: 9, From: from, Until: until}
			want := isOneOfTheTimes(from) && isOneOfTheTimes(until) && from <= until && until-from <= maxSpan
			if got := impl.IsCert(x); got != want {
				t.Errorf("IsCert from %d until %d = %v", from, until, got)
			}
		}
	}
}

// The marks are written out, as they were worked out by the formula of the document; neither the secret nor the certificate need be valid.
func TestMarkCert(t *testing.T) {
	for _, c := range []struct {
		secret int
		x      impl.Cert
		mark   int
	}{
		{7, impl.Cert{Serial: 1, Subject: 20, Key: 200, From: 5, Until: 15}, 2049248281},
		{1, impl.Cert{Serial: 1, Subject: 10, Key: 1, From: 0, Until: 0}, 291064984},
		{modulus - 1, impl.Cert{Serial: 9999, Subject: 49, Key: modulus - 1, From: maxTime, Until: maxTime}, 886548594},
		{12345, impl.Cert{Serial: 9999, Subject: 19, Key: 2, From: maxTime - maxSpan, Until: maxTime}, 1620480445},
		{77, impl.Cert{Serial: 500, Subject: 30, Key: 12345, From: 0, Until: maxSpan}, 2113301958},
		{2, impl.Cert{Serial: 42, Subject: 39, Key: 99, From: 100, Until: 101}, 882222376},
		{9, impl.Cert{Serial: 1, Subject: 29, Key: modulus - 2, From: maxTime - 1, Until: maxTime}, 759249348},
		{0, impl.Cert{Serial: 1, Subject: 20, Key: 200, From: 5, Until: 15}, 502651970},
		{-1, impl.Cert{}, 741436356},
		{modulus, impl.Cert{Serial: -1, Subject: -20, Key: -200, From: -5, Until: -15}, 808538646},
		{modulus + 7, impl.Cert{Serial: 1, Subject: 20, Key: 200, From: 5, Until: 15}, 2049248281},
		{5, impl.Cert{Serial: maxValue, Subject: 1 << 62, Key: math.MinInt, From: math.MaxInt, Until: -1}, 2130312089},
	} {
		want := c.x
		want.Mark = c.mark
		for _, before := range append(atTheEnds(), c.mark) {
			c.x.Mark = before
			if got := impl.MarkCert(c.secret, c.x); got != want {
				t.Errorf("MarkCert(%d, %v) = %v, want %v", c.secret, c.x, got, want)
			}
		}
	}
}

func TestMarkCertOfAnything(t *testing.T) {
	for _, x := range slices.Concat(someCerts(), noCerts(), []impl.Cert{{}}) {
		for _, secret := range append(atTheEnds(), 7, 77) {
			want := withMark(secret, x)
			if got := impl.MarkCert(secret, x); got != want {
				t.Errorf("MarkCert(%d, %v) = %v, want %v", secret, x, got, want)
			}
			if got := impl.MarkCert(secret, want); got != want {
				t.Errorf("MarkCert(%d, %v) = %v", secret, want, got)
			}
		}
	}
}

// Each part but the Mark itself makes another mark; the modulus does not change the hash.
func TestMarksDependOnEachPart(t *testing.T) {
	for _, x := range someCerts() {
		x = withMark(7, x)
		for _, d := range []int{1, -1, 2, 10, -10, 1000, modulus - 1, modulus + 1, 1 << 32, math.MinInt} {
			for part, y := range changedCerts(x, d) {
				if got := impl.MarkCert(7, y).Mark; (got == x.Mark) != (part == 5) {
					t.Errorf("with part %d changed by %d, the mark of %v is %d", part, d, x, got)
				}
			}
		}
		for part, y := range changedCerts(x, modulus) {
			if got := impl.MarkCert(7, y).Mark; got != x.Mark {
				t.Errorf("with the modulus added to part %d, the mark of %v is %d", part, x, got)
			}
		}
	}
}

func TestIssueCert(t *testing.T) {
	for _, c := range []struct {
		from, span int
		until      int
	}{
		{5, 10, 15},
		{5, 0, 5},
		{5, 1, 6},
		{5, maxSpan - 1, 54},
		{5, maxSpan, 55},
		{0, 0, 0},
		{0, 1, 1},
		{0, maxSpan, maxSpan},
		{maxTime - maxSpan - 1, maxSpan, maxTime - 1},
		{maxTime - maxSpan, maxSpan, maxTime},
		{maxTime - maxSpan, maxSpan - 1, maxTime - 1},
		{maxTime - 1, 0, maxTime - 1},
		{maxTime - 1, 1, maxTime},
		{maxTime, 0, maxTime},
		// EndOf is at most MaxTime, so that a span that begins late ends early.
		{maxTime - maxSpan, maxSpan + 1, maxTime},
		{maxTime - maxSpan + 1, maxSpan, maxTime},
		{maxTime - maxSpan + 1, maxSpan + 1, maxTime},
		{maxTime - 1, 2, maxTime},
		{maxTime - 1, maxSpan, maxTime},
		{maxTime, 1, maxTime},
		{maxTime, maxSpan, maxTime},
		{maxTime, maxSpan + 1, maxTime},
		{maxTime - 10, maxTime, maxTime},
		{maxTime, maxTime, maxTime},
		// EndOf is 0 for a span beyond MaxTime, which is an end of a certificate from 0 on.
		{0, maxTime + 1, 0},
		{0, math.MaxInt, 0},
	} {
		for _, x := range someCerts() {
			x.From, x.Until = c.from, c.until
			for _, secret := range keysOfIssuers() {
				want := withMark(secret, x)
				got, ok := impl.IssueCert(secret, x.Serial, x.Subject, x.Key, c.from, c.span)
				if !ok || got != want {
					t.Errorf("IssueCert(%d, .., %d, %d) = %v, %v, want %v", secret, c.from, c.span, got, ok, want)
				}
				if !impl.IsCert(got) || !impl.CheckCert(secret, got, c.from) || !impl.CheckCert(secret, got, c.until) {
					t.Errorf("%v, as it was issued, is not good", got)
				}
			}
		}
	}
}

func checkNotIssued(t *testing.T, secret, serial, subject, key, from, span int) {
	t.Helper()
	if got, ok := impl.IssueCert(secret, serial, subject, key, from, span); ok || got != (impl.Cert{}) {
		t.Errorf("IssueCert(%d, %d, %d, %d, %d, %d) = %v, %v", secret, serial, subject, key, from, span, got, ok)
	}
}

func TestIssueCertThatIsNotValid(t *testing.T) {
	for _, secret := range noKeysOfIssuers() {
		checkNotIssued(t, secret, 1, 20, 200, 5, 10)
		checkNotIssued(t, secret, 0, 50, 0, -1, -1)
	}
	for _, secret := range keysOfIssuers() {
		for _, serial := range noSerials() {
			checkNotIssued(t, secret, serial, 20, 200, 5, 10)
		}
		for _, subject := range noNames() {
			checkNotIssued(t, secret, 1, subject, 200, 5, 10)
		}
		for _, key := range noKeysOfIssuers() {
			checkNotIssued(t, secret, 1, 20, key, 5, 10)
		}
		for _, from := range noTimes() {
			for _, span := range []int{0, 1, 10, maxSpan, maxSpan + 1, maxTime, maxTime + 1, -1, -from, math.MaxInt} {
				checkNotIssued(t, secret, 1, 20, 200, from, span)
			}
		}
		for _, from := range []int{0, 1, 5, 100, maxTime - maxSpan, maxTime - 1, maxTime} {
			for _, span := range []int{-1, -2, -5, -maxSpan, -maxTime, -maxTime - 1, math.MinInt, math.MinInt + 5} {
				checkNotIssued(t, secret, 1, 20, 200, from, span)
			}
		}
		for _, from := range []int{0, 1, 5, 100, maxTime - maxSpan - 2, maxTime - maxSpan - 1} {
			for _, span := range []int{maxSpan + 1, maxSpan + 2, 100, 1000, maxTime - 1, maxTime} {
				checkNotIssued(t, secret, 1, 20, 200, from, span)
			}
		}
		for _, span := range []int{maxTime + 1, maxTime + 2, 1 << 32, math.MaxInt} {
			for _, from := range []int{1, 5, 100, maxTime - maxSpan, maxTime - 1, maxTime} {
				checkNotIssued(t, secret, 1, 20, 200, from, span)
			}
		}
	}
}

// A certificate is issued exactly if it is no longer than MaxSpan, and has the end that is asked for or ends with the times.
func TestIssueCertFromEveryTime(t *testing.T) {
	for from := -2; from <= maxTime+2; from++ {
		for _, span := range []int{-1, 0, 1, 2, 25, maxSpan - 1, maxSpan, maxSpan + 1, maxSpan + 2, 100} {
			want := impl.Cert{}
			until := min(from+span, maxTime)
			may := isOneOfTheTimes(from) && span >= 0 && until-from <= maxSpan
			if may {
				want = impl.Cert{Serial: 11, Subject: 22, Key: 33, From: from, Until: until}
				want.Mark = impl.KeyedHash(44, []int{11, 22, 33, from, until})
			}
			if got, ok := impl.IssueCert(44, 11, 22, 33, from, span); ok != may || got != want {
				t.Errorf("IssueCert from %d for %d = %v, %v, want %v", from, span, got, ok, want)
			}
		}
	}
}

func TestCheckCert(t *testing.T) {
	x := impl.Cert{Serial: 1, Subject: 20, Key: 200, From: 5, Until: 15, Mark: 2049248281}
	sameDay := withMark(7, impl.Cert{Serial: 1, Subject: 20, Key: 200, From: 5, Until: 5})
	atFirst := withMark(7, impl.Cert{Serial: 1, Subject: 20, Key: 200, From: 0, Until: 0})
	atLast := withMark(7, impl.Cert{Serial: 1, Subject: 20, Key: 200, From: maxTime, Until: maxTime})
	for _, c := range []struct {
		x    impl.Cert
		now  int
		want bool
	}{
		{x, 3, false},
		{x, 4, false},
		{x, 5, true},
		{x, 6, true},
		{x, 10, true},
		{x, 14, true},
		{x, 15, true},
		{x, 16, false},
		{x, 17, false},
		{x, 0, false},
		{x, -5, false},
		{x, -10, false},
		{x, maxTime, false},
		{x, math.MinInt, false},
		{x, math.MaxInt, false},
		{sameDay, 4, false},
		{sameDay, 5, true},
		{sameDay, 6, false},
		{atFirst, -1, false},
		{atFirst, 0, true},
		{atFirst, 1, false},
		{atLast, maxTime - 1, false},
		{atLast, maxTime, true},
		{atLast, maxTime + 1, false},
	} {
		if got := impl.CheckCert(7, c.x, c.now); got != c.want {
			t.Errorf("CheckCert of %v at %d = %v", c.x, c.now, got)
		}
	}
}

func TestCheckCertAtEveryTime(t *testing.T) {
	for _, x := range someCerts() {
		x = withMark(77, x)
		for now := -60; now <= maxTime+60; now++ {
			if got, want := impl.CheckCert(77, x, now), x.From <= now && now <= x.Until; got != want {
				t.Errorf("CheckCert of %v at %d = %v", x, now, got)
			}
		}
		for _, now := range noTimes() {
			if impl.CheckCert(77, x, now) {
				t.Errorf("CheckCert of %v at %d = true", x, now)
			}
		}
	}
}

// With each part changed, its mark too, and everything else as it was: also where the new certificate is valid, and at its own times.
func TestChangedCertificatesAreNotGood(t *testing.T) {
	for _, secret := range []int{1, 7, modulus - 1} {
		for _, x := range someCerts() {
			x = withMark(secret, x)
			for _, d := range []int{1, -1, 2, -2, 5, 9, -10, 10, 20, 50, 1000, modulus, -modulus, modulus + 1, 1 << 32, math.MinInt} {
				for part, y := range changedCerts(x, d) {
					for _, now := range timesAround(x, y) {
						if impl.CheckCert(secret, y, now) {
							t.Errorf("with part %d changed, %v is good at %d", part, y, now)
						}
					}
				}
			}
			for _, m := range noAnswersBeside(x.Mark) {
				y := x
				y.Mark = m
				if impl.CheckCert(secret, y, x.From) || impl.CheckCert(secret, y, x.Until) {
					t.Errorf("with the mark %d, %v is good", m, x)
				}
			}
		}
	}
}

// Of two certificates, each part can be changed for that of the other one, and no such mixture is good.
func TestMixedCertificatesAreNotGood(t *testing.T) {
	x := withMark(7, impl.Cert{Serial: 1, Subject: 20, Key: 200, From: 5, Until: 15})
	y := withMark(7, impl.Cert{Serial: 2, Subject: 30, Key: 201, From: 6, Until: 16})
	for set := range 1 << 6 {
		z := impl.Cert{
			Serial:  either(set, 0, x.Serial, y.Serial),
			Subject: either(set, 1, x.Subject, y.Subject),
			Key:     either(set, 2, x.Key, y.Key),
			From:    either(set, 3, x.From, y.From),
			Until:   either(set, 4, x.Until, y.Until),
			Mark:    either(set, 5, x.Mark, y.Mark),
		}
		if got, want := impl.CheckCert(7, z, 10), z == x || z == y; got != want {
			t.Errorf("CheckCert of %v = %v", z, got)
		}
	}
}

// A mark that is right does not help where the certificate is not valid.
func TestRightMarksOfWhatIsNoCert(t *testing.T) {
	for _, x := range append(noCerts(), impl.Cert{}) {
		for _, secret := range keysOfIssuers() {
			y := withMark(secret, x)
			for _, now := range timesAround(x) {
				if impl.CheckCert(secret, y, now) || impl.HasProved(secret, y, 3, bigKeyedHash(y.Key, 3), now) {
					t.Errorf("%v is good at %d", y, now)
				}
			}
		}
	}
}

func TestOnlyTheSecretThatMarkedIsOfUse(t *testing.T) {
	secrets := append(keysOfIssuers(), 7, 8, 100, 101, modulus/2, modulus-7)
	for _, x := range someCerts() {
		for _, secret := range secrets {
			y := withMark(secret, x)
			for _, other := range append(secrets, secret-1, secret+1, -secret, 0, x.Key+1) {
				want := impl.Mod(other, modulus) == secret
				for _, now := range []int{x.From, x.Until} {
					if got := impl.CheckCert(other, y, now); got != want {
						t.Errorf("CheckCert of %v, marked with %d, under %d = %v", y, secret, other, got)
					}
				}
				if impl.CheckCert(other, y, x.From-1) || impl.CheckCert(other, y, x.Until+1) {
					t.Errorf("under %d, %v is good beyond its span", other, y)
				}
			}
		}
	}
}

// A secret that is no key issues nothing; CheckCert asks for the mark alone, which depends on the secret modulo the modulus.
func TestSecretsThatAreNoKeys(t *testing.T) {
	x := impl.Cert{Serial: 1, Subject: 20, Key: 200, From: 5, Until: 15}
	for _, secret := range noKeysOfIssuers() {
		checkNotIssued(t, secret, x.Serial, x.Subject, x.Key, x.From, 10)
		if y := withMark(secret, x); !impl.CheckCert(secret, y, 5) || impl.CheckCert(secret, y, 4) || impl.CheckCert(secret, y, 16) {
			t.Errorf("CheckCert of %v under %d", y, secret)
		}
		for _, key := range keysOfIssuers() {
			want := impl.Mod(secret, modulus) == key
			if got := impl.CheckCert(secret, withMark(key, x), 5); got != want {
				t.Errorf("CheckCert under %d of what was marked with %d = %v", secret, key, got)
			}
		}
	}
}

// The answers are written out, as they were worked out by the formula of the document.
func TestProveKey(t *testing.T) {
	for _, c := range []struct{ key, nonce, want int }{
		{200, 3, 1788751972},
		{200, 4, 1789751975},
		{201, 3, 1067372480},
		{1, 0, 1458866522},
		{1, 1, 1459866525},
		{modulus - 1, 0, 754141859},
		{modulus - 1, modulus - 1, 753141856},
		{77, 0, 321116305},
		{77, -1, 320116302},
		{77, modulus - 1, 320116302},
		{77, modulus, 321116305},
		{77, 5, 326116320},
		{77, 2*modulus + 5, 326116320},
		{0, 3, 35762376},
		{-9, 3, 85726863},
		{modulus, 0, 32762367},
		{12345, maxValue, 1309489188},
		{12345, math.MinInt, 215617730},
		{12345, math.MaxInt, 218617739},
	} {
		if got := impl.ProveKey(c.key, c.nonce); got != c.want {
			t.Errorf("ProveKey(%d, %d) = %d, want %d", c.key, c.nonce, got, c.want)
		}
	}
	for _, key := range append(atTheEnds(), 77, 200) {
		for _, nonce := range nonces() {
			want := bigKeyedHash(key, nonce)
			if got := impl.ProveKey(key, nonce); got != want {
				t.Errorf("ProveKey(%d, %d) = %d, want %d", key, nonce, got, want)
			}
		}
	}
}

func TestHasProved(t *testing.T) {
	x := impl.Cert{Serial: 1, Subject: 20, Key: 200, From: 5, Until: 15, Mark: 2049248281}
	wrong := x
	wrong.Mark++
	for _, c := range []struct {
		secret             int
		x                  impl.Cert
		nonce, answer, now int
		want               bool
	}{
		{7, x, 3, 1788751972, 9, true},
		{7, x, 4, 1789751975, 9, true},
		{7, x, 3, 1788751972, 5, true},
		{7, x, 3, 1788751972, 15, true},
		{7, x, 3, 1788751972, 4, false},
		{7, x, 3, 1788751972, 16, false},
		{7, x, 3, 1788751972, 99, false},
		{7, x, 3, 1788751972, -1, false},
		{7, x, 3, 1788751972, math.MaxInt, false},
		{7, x, 4, 1788751972, 9, false},
		{7, x, 3, 1789751975, 9, false},
		{7, x, 3, 1788751971, 9, false},
		{7, x, 3, 1788751973, 9, false},
		{7, x, 3, 1788751972 + modulus, 9, false},
		{7, x, 3, 1788751972 - modulus, 9, false},
		{7, x, 3, 1067372480, 9, false},
		{7, x, 3, 0, 9, false},
		{8, x, 3, 1788751972, 9, false},
		{0, x, 3, 1788751972, 9, false},
		{200, x, 3, 1788751972, 9, false},
		{7, wrong, 3, 1788751972, 9, false},
		{7, impl.Cert{}, 3, 35762376, 0, false},
		{0, impl.Cert{}, 0, 0, 0, false},
	} {
		if got := impl.HasProved(c.secret, c.x, c.nonce, c.answer, c.now); got != c.want {
			t.Errorf("HasProved(%d, %v, %d, %d, %d) = %v", c.secret, c.x, c.nonce, c.answer, c.now, got)
		}
	}
}

// The answer that the key of the certificate gives, at every time in and around the span, and no other answer.
func TestHasProvedForEveryNonce(t *testing.T) {
	for _, x := range someCerts() {
		x = withMark(7, x)
		for _, nonce := range nonces() {
			answer := bigKeyedHash(x.Key, nonce)
			for _, now := range timesAround(x) {
				if got, want := impl.HasProved(7, x, nonce, answer, now), x.From <= now && now <= x.Until; got != want {
					t.Errorf("HasProved of %v for %d at %d = %v", x, nonce, now, got)
				}
			}
			if impl.HasProved(8, x, nonce, answer, x.From) {
				t.Errorf("under another secret, %v has proved its key for %d", x, nonce)
			}
			for _, n := range noAnswersBeside(answer) {
				if impl.HasProved(7, x, nonce, n, x.From) || impl.HasProved(7, x, nonce, n, x.Until) {
					t.Errorf("by %d, %v has proved its key for %d", n, x, nonce)
				}
			}
		}
	}
}

// Nonces are as different as they are modulo the modulus.
func TestAnswersForAnotherNonce(t *testing.T) {
	for _, x := range someCerts() {
		x = withMark(7, x)
		for _, nonce := range nonces() {
			for _, other := range nonces() {
				want := impl.Mod(nonce, modulus) == impl.Mod(other, modulus)
				if got := impl.HasProved(7, x, nonce, bigKeyedHash(x.Key, other), x.Until); got != want {
					t.Errorf("for %d, the answer for %d proves the key of %v: %v", nonce, other, x, got)
				}
			}
		}
	}
}

func TestAnswersOfAnotherKey(t *testing.T) {
	for _, x := range someCerts() {
		x = withMark(7, x)
		for _, key := range append(keysOfIssuers(), x.Key-1, x.Key+1, -x.Key, 0, 7, 200, x.Mark, x.Serial, modulus-x.Key, x.Key+modulus) {
			for _, nonce := range []int{0, 3, 5000, modulus - 1, -3} {
				want := impl.Mod(key, modulus) == x.Key
				if got := impl.HasProved(7, x, nonce, bigKeyedHash(key, nonce), x.From); got != want {
					t.Errorf("the answer of the key %d for %d proves that of %v: %v", key, nonce, x, got)
				}
			}
		}
	}
}

// The holder of a key cannot make use of it under a certificate that was changed.
func TestChangedCertificatesProveNothing(t *testing.T) {
	for _, x := range someCerts() {
		x = withMark(7, x)
		for _, d := range []int{1, -1, 10, -10, modulus, math.MinInt} {
			for part, y := range changedCerts(x, d) {
				for _, now := range []int{x.From, x.Until, y.From, y.Until} {
					if impl.HasProved(7, y, 3, bigKeyedHash(y.Key, 3), now) || impl.HasProved(7, y, 3, bigKeyedHash(x.Key, 3), now) {
						t.Errorf("with part %d changed, %v has proved its key at %d", part, y, now)
					}
				}
			}
		}
	}
}
