package sign_test

import (
	"bytes"
	"crypto/ecdsa"
	"crypto/elliptic"
	"crypto/sha256"
	"math/big"
	"math/rand"
	"strings"
	"testing"

	"portico/api"
	"portico/curve"
	"portico/limbs"
	"portico/sign"
)

var (
	p256   = elliptic.P256()
	p      = p256.Params().P
	n      = p256.Params().N
	one    = big.NewInt(1)
	two256 = new(big.Int).Lsh(one, 256)
	sample = []byte("sample")
)

// greatDigest has a digest above the order of the base point.
const greatDigest = "message 2493601830"

// A point of the reference arithmetic, which is the library's.
type point struct {
	x, y *big.Int
}

func base() point {
	return point{p256.Params().Gx, p256.Params().Gy}
}

func times(k *big.Int, a point) point {
	x, y := p256.ScalarMult(a.x, a.y, modulo(k).Bytes())
	return point{x, y}
}

func plus(a, b point) point {
	x, y := p256.Add(a.x, a.y, b.x, b.y)
	return point{x, y}
}

func modulo(k *big.Int) *big.Int {
	return new(big.Int).Mod(k, n)
}

func product(a, b *big.Int) *big.Int {
	return modulo(new(big.Int).Mul(a, b))
}

func quotient(a, b *big.Int) *big.Int {
	return product(a, new(big.Int).ModInverse(b, n))
}

func opposite(a *big.Int) *big.Int {
	return modulo(new(big.Int).Neg(a))
}

func sum(a, b *big.Int) *big.Int {
	return new(big.Int).Add(a, b)
}

// pair encodes two numbers as keys and signatures do.
func pair(a, b *big.Int) []byte {
	l := make([]byte, 64)
	a.FillBytes(l[:32])
	b.FillBytes(l[32:])
	return l
}

func keyOf(a point) []byte {
	return pair(a.x, a.y)
}

func parse(hex string) *big.Int {
	x, ok := new(big.Int).SetString(strings.ReplaceAll(hex, " ", ""), 16)
	if !ok {
		panic(hex)
	}
	return x
}

func digest(msg []byte) *big.Int {
	d := sha256.Sum256(msg)
	return new(big.Int).SetBytes(d[:])
}

// someNumber returns one from 1 to n - 1.
func someNumber(random *rand.Rand) *big.Int {
	return sum(new(big.Int).Rand(random, new(big.Int).Sub(n, one)), one)
}

// signed returns the signature of msg by the private key d with the nonce k.
func signed(d, k *big.Int, msg []byte) (r, s *big.Int) {
	r = modulo(times(k, base()).x)
	return r, quotient(sum(digest(msg), product(r, d)), k)
}

// keyFor returns the key whose sum for msg and the signature (r, s) is a.
func keyFor(a point, r, s *big.Int, msg []byte) []byte {
	inverse := new(big.Int).ModInverse(r, n)
	first := times(product(s, inverse), a)
	return keyOf(plus(first, times(opposite(product(digest(msg), inverse)), base())))
}

// withX returns a point of the curve with that x, if there is one.
func withX(x *big.Int) (point, bool) {
	cube := new(big.Int).Exp(x, big.NewInt(3), p)
	right := cube.Sub(cube, new(big.Int).Mul(big.NewInt(3), x))
	right.Add(right, p256.Params().B)
	y := new(big.Int).ModSqrt(right.Mod(right, p), p)
	return point{x, y}, y != nil
}

// pointsFrom returns the first points of the curve with an x from the given one
// on.
func pointsFrom(x *big.Int, count int) []point {
	var l []point
	for ; len(l) < count; x = sum(x, one) {
		if a, ok := withX(x); ok {
			l = append(l, a)
		}
	}
	return l
}

func expect(t *testing.T, want api.Errno, key, msg, sig []byte, what string) {
	t.Helper()
	if got := sign.Verify(key, msg, sig); got != want {
		t.Errorf("%s: got %d, want %d; key %X, message %q, signature %X", what, got, want, key, msg, sig)
	}
}

// libraryVerifies is what Go's library says of a signature.
func libraryVerifies(key, msg []byte, r, s *big.Int) bool {
	x, y := new(big.Int).SetBytes(key[:32]), new(big.Int).SetBytes(key[32:])
	d := sha256.Sum256(msg)
	return ecdsa.Verify(&ecdsa.PublicKey{Curve: p256, X: x, Y: y}, d[:], r, s)
}

// The key and the signatures of RFC 6979, A.2.5.
const (
	knownX       = "60FED4BA255A9D31C961EB74C6356D68C049B8923B61FA6CE669622E60F29FB6"
	knownY       = "7903FE1008B8BC99A41AE9E95628BC64F2F1B20C2D7E9F5177A3C294D4462299"
	knownSampleR = "EFD48B2AACB6A8FD1140DD9CD45E81D69D2C877B56AAF991C34D0EA84EAF3716"
	knownSampleS = "F7CB1C942D657C41D436C7A1B6E29F65F3E900DBB9AFF4064DC4AB2F843ACDA8"
	knownTestR   = "F1ABB023518351CD71D881567B1EA663ED3EFCF6C5132B354F28D3B0B7D38367"
	knownTestS   = "019F4113742A2B14BD25926B49C649155F267E60D3814B4C0CC84250E46F0083"
)

func knownKey() []byte {
	return pair(parse(knownX), parse(knownY))
}

func TestKnownSignatures(t *testing.T) {
	ofSample := pair(parse(knownSampleR), parse(knownSampleS))
	ofTest := pair(parse(knownTestR), parse(knownTestS))
	expect(t, api.OK, knownKey(), sample, ofSample, "the RFC's first")
	expect(t, api.OK, knownKey(), []byte("test"), ofTest, "the RFC's second")
	expect(t, api.ErrSign, knownKey(), sample, ofTest, "another message's")
	expect(t, api.ErrSign, knownKey(), []byte("test"), ofSample, "another message's")
}

// Some points have small coordinates, or coordinates near the prime.
func somePoints() []point {
	random := rand.New(rand.NewSource(1))
	l := append(pointsFrom(new(big.Int), 4), pointsFrom(new(big.Int).Sub(p, big.NewInt(20)), 4)...)
	l = append(l, base())
	for range 4 {
		l = append(l, times(someNumber(random), base()))
	}
	return l
}

func TestKey(t *testing.T) {
	for _, a := range somePoints() {
		q, e := sign.Key(keyOf(a))
		x, y := limbs.Bytes(q.X), limbs.Bytes(q.Y)
		if e != api.OK || q.None || !bytes.Equal(append(x[:], y[:]...), keyOf(a)) {
			t.Errorf("(%x, %x): got %v, %d", a.x, a.y, q, e)
		}
	}
	if q, e := sign.Key(keyOf(base())); q != curve.Base() || e != api.OK {
		t.Errorf("the base point: got %v, %d", q, e)
	}
}

func expectNoKey(t *testing.T, want api.Errno, b []byte) {
	t.Helper()
	if q, e := sign.Key(b); e != want || q != (curve.Point{}) {
		t.Errorf("Key of %X: got %v, %d, want %d", b, q, e, want)
	}
	expect(t, api.ErrKey, b, sample, pair(parse(knownSampleR), parse(knownSampleS)), "no key")
	expect(t, api.ErrKey, b, nil, nil, "neither a key nor a signature")
}

func TestKeyOfWrongLength(t *testing.T) {
	long := append(knownKey(), knownKey()...)
	for i := range long {
		if i != 64 {
			expectNoKey(t, api.ErrLen, long[:i])
			expectNoKey(t, api.ErrLen, make([]byte, i))
		}
	}
	expectNoKey(t, api.ErrLen, nil)
	expectNoKey(t, api.ErrLen, append([]byte{4}, knownKey()...))
}

func TestKeyThatIsNoPoint(t *testing.T) {
	for i := range 512 {
		b := knownKey()
		b[i/8] ^= 1 << (i % 8)
		expectNoKey(t, api.ErrForm, b)
	}
	greatest := new(big.Int).Sub(two256, one)
	expectNoKey(t, api.ErrForm, make([]byte, 64))
	expectNoKey(t, api.ErrForm, pair(greatest, greatest))
	expectNoKey(t, api.ErrForm, pair(p, p))
	expectNoKey(t, api.ErrForm, pair(parse(knownY), parse(knownX)))
	for _, a := range pointsFrom(new(big.Int), 4) {
		expectNoKey(t, api.ErrForm, pair(sum(a.x, p), a.y))
	}
}

func TestVerify(t *testing.T) {
	random := rand.New(rand.NewSource(2))
	for i := range 40 {
		d, k, msg := someNumber(random), someNumber(random), make([]byte, 13*i)
		random.Read(msg)
		key := keyOf(times(d, base()))
		r, s := signed(d, k, msg)
		if !libraryVerifies(key, msg, r, s) {
			t.Fatal("the test's own signature isn't valid")
		}
		expect(t, api.OK, key, msg, pair(r, s), "a signature")
		expect(t, api.OK, key, msg, pair(r, opposite(s)), "n - S")
		expect(t, api.ErrSign, key, msg, pair(s, r), "R and S exchanged")
		expect(t, api.ErrSign, key, msg, pair(opposite(r), s), "n - R")
		expect(t, api.ErrSign, key, append(msg, 0), pair(r, s), "a byte more in the message")
		expect(t, api.ErrSign, keyOf(times(sum(d, one), base())), msg, pair(r, s), "another key")
		expect(t, api.ErrSign, keyOf(times(opposite(d), base())), msg, pair(r, s), "the opposite key")
	}
}

// Private keys and nonces at the ends make keys and sums that are the base
// point or its opposite.
func TestVerifyAtTheEnds(t *testing.T) {
	var ends []*big.Int
	for i := range int64(3) {
		k := big.NewInt(i + 1)
		ends = append(ends, k, opposite(k))
	}
	for _, d := range ends {
		for _, k := range ends {
			key := keyOf(times(d, base()))
			r, s := signed(d, k, sample)
			expect(t, api.OK, key, sample, pair(r, s), "a signature")
			expect(t, api.OK, key, sample, pair(r, opposite(s)), "n - S")
			expect(t, api.ErrSign, key, sample, pair(r, sum(s, one)), "S + 1")
			expect(t, api.ErrSign, key, sample, pair(sum(r, one), s), "R + 1")
		}
	}
}

// Each bit of a signature, of a message and of a key counts.
func TestChangedBits(t *testing.T) {
	key, sig := knownKey(), pair(parse(knownSampleR), parse(knownSampleS))
	for i := range 512 {
		changed := bytes.Clone(sig)
		changed[i/8] ^= 1 << (i % 8)
		expect(t, api.ErrSign, key, sample, changed, "a changed signature")
	}
	for i := range 8 * len(sample) {
		changed := bytes.Clone(sample)
		changed[i/8] ^= 1 << (i % 8)
		expect(t, api.ErrSign, key, changed, sig, "a changed message")
	}
	expect(t, api.ErrSign, key, nil, sig, "no message")
	expect(t, api.ErrSign, key, sample[:5], sig, "a byte less in the message")
}

func TestSignatureOfWrongLength(t *testing.T) {
	sig := pair(parse(knownSampleR), parse(knownSampleS))
	long := append(bytes.Clone(sig), sig...)
	for i := range long {
		if i != 64 {
			expect(t, api.ErrSign, knownKey(), sample, long[:i], "a length")
		}
	}
	expect(t, api.ErrSign, knownKey(), sample, nil, "nil")
	expect(t, api.ErrSign, knownKey(), sample, append([]byte{0}, sig...), "a 0 in front")
}

// R and S that are right modulo n are valid from 1 to n - 1 only.
func TestRange(t *testing.T) {
	random := rand.New(rand.NewSource(3))
	for _, a := range pointsFrom(one, 6) {
		for _, s := range []*big.Int{one, big.NewInt(2), someNumber(random), new(big.Int).Sub(n, one)} {
			r := a.x
			key := keyFor(a, r, s, sample)
			expect(t, api.OK, key, sample, pair(r, s), "a small R")
			expect(t, api.ErrSign, key, sample, pair(sum(r, n), s), "R + n")
			if above := sum(s, n); above.Cmp(two256) < 0 {
				expect(t, api.ErrSign, key, sample, pair(r, above), "S + n")
				expect(t, api.ErrSign, key, sample, pair(sum(r, n), above), "R + n, S + n")
			}
		}
	}
}

// Numbers beyond the range, with any number of the range.
func TestOutOfRange(t *testing.T) {
	r, s := parse(knownSampleR), parse(knownSampleS)
	for _, bad := range []*big.Int{new(big.Int), n, sum(n, one), p, new(big.Int).Sub(two256, one)} {
		for _, other := range []*big.Int{new(big.Int), one, r, s, new(big.Int).Sub(n, one), n, bad} {
			expect(t, api.ErrSign, knownKey(), sample, pair(bad, other), "R out of range")
			expect(t, api.ErrSign, knownKey(), sample, pair(other, bad), "S out of range")
		}
	}
	// With S = 0, or R = 0, equations that divide by neither would hold.
	expect(t, api.ErrSign, keyOf(base()), sample, pair(base().x, new(big.Int)), "S = 0")
	expect(t, api.ErrSign, keyOf(base()), sample, pair(new(big.Int), digest(sample)), "R = 0")
}

// X may be from n to the prime less 1; R is then X - n.
func TestXAboveOrder(t *testing.T) {
	random := rand.New(rand.NewSource(4))
	for _, a := range pointsFrom(n, 6) {
		if a.x.Cmp(p) >= 0 {
			t.Fatal("no such point")
		}
		r, s := modulo(a.x), someNumber(random)
		if r.Sign() == 0 {
			continue // then there is no R
		}
		key := keyFor(a, r, s, sample)
		if !libraryVerifies(key, sample, r, s) {
			t.Fatal("the test's own signature isn't valid")
		}
		expect(t, api.OK, key, sample, pair(r, s), "R is X - n")
		expect(t, api.ErrSign, key, sample, pair(a.x, s), "R is X")
	}
}

// A digest above n counts as it is modulo n.
func TestDigestAboveOrder(t *testing.T) {
	msg := []byte(greatDigest)
	if digest(msg).Cmp(n) <= 0 {
		t.Fatal("the digest is below the order")
	}
	random := rand.New(rand.NewSource(5))
	for range 8 {
		d, k := someNumber(random), someNumber(random)
		key := keyOf(times(d, base()))
		r, s := signed(d, k, msg)
		expect(t, api.OK, key, msg, pair(r, s), "a digest above n")
		expect(t, api.ErrSign, key, sample, pair(r, s), "another message")
	}
}

// The two points that are added are equal, or opposite: their sum is the point
// at infinity then, and no signature is valid.
func TestEqualAndOppositeTerms(t *testing.T) {
	random := rand.New(rand.NewSource(6))
	e := digest(sample)
	for range 8 {
		k := someNumber(random)
		r := modulo(times(k, base()).x)
		s := quotient(product(e, big.NewInt(2)), k)
		expect(t, api.OK, keyOf(times(quotient(e, r), base())), sample, pair(r, s), "equal terms")
		key := keyOf(times(opposite(quotient(e, r)), base()))
		for _, s := range []*big.Int{one, s, e, someNumber(random)} {
			expect(t, api.ErrSign, key, sample, pair(r, s), "opposite terms")
		}
	}
}

func TestErrorOfKeyComesFirst(t *testing.T) {
	bad := knownKey()
	bad[63]++
	for _, key := range [][]byte{nil, bad, bad[:63]} {
		for _, sig := range [][]byte{nil, make([]byte, 64), make([]byte, 63), pair(parse(knownSampleR), parse(knownSampleS))} {
			expect(t, api.ErrKey, key, sample, sig, "no key")
		}
	}
}

// padded returns a slice with b and unused capacity after it.
func padded(b []byte) []byte {
	return append(bytes.Clone(b), 1, 2, 3)[:len(b)]
}

func TestArgumentsStay(t *testing.T) {
	key, msg := padded(knownKey()), padded(sample)
	sig := padded(pair(parse(knownSampleR), parse(knownSampleS)))
	q, _ := sign.Key(key)
	expect(t, api.OK, key, msg, sig, "with unused capacity")
	for _, b := range [][2][]byte{{key, knownKey()}, {msg, sample}, {sig, pair(parse(knownSampleR), parse(knownSampleS))}} {
		if !bytes.Equal(b[0], b[1]) || !bytes.Equal(b[0][:len(b[0])+3][len(b[0]):], []byte{1, 2, 3}) {
			t.Errorf("modified: %X", b[0][:len(b[0])+3])
		}
	}
	clear(key)
	if again, _ := sign.Key(knownKey()); again != q {
		t.Error("the point hangs on the key's bytes")
	}
}

// Bytes at random are handled alike by this package and by the library.
func TestRandomBytes(t *testing.T) {
	random := rand.New(rand.NewSource(7))
	for range 100 {
		sig := make([]byte, 64)
		random.Read(sig)
		r, s := new(big.Int).SetBytes(sig[:32]), new(big.Int).SetBytes(sig[32:])
		want := api.ErrSign
		if libraryVerifies(knownKey(), sample, r, s) {
			want = api.OK
		}
		expect(t, want, knownKey(), sample, sig, "a random signature")
	}
}

func BenchmarkVerify(b *testing.B) {
	key, sig := knownKey(), pair(parse(knownSampleR), parse(knownSampleS))
	for b.Loop() {
		sign.Verify(key, sample, sig)
	}
}
