package mont_test

import (
	"fmt"
	"math"
	"math/big"
	"math/rand"
	"testing"

	"portico/api"
	"portico/mont"
)

var r = new(big.Int).Lsh(big.NewInt(1), 256)

func toBig(n api.Num) *big.Int {
	x := new(big.Int)
	for i := len(n) - 1; i >= 0; i-- {
		x.Lsh(x, 32)
		x.Or(x, new(big.Int).SetUint64(uint64(n[i])))
	}
	return x
}

func fromBig(x *big.Int) api.Num {
	var n api.Num
	low := big.NewInt(math.MaxUint32)
	for i := range n {
		word := new(big.Int).Rsh(x, uint(32*i))
		n[i] = uint32(word.And(word, low).Uint64())
	}
	return n
}

func parse(hex string) *big.Int {
	x, ok := new(big.Int).SetString(hex, 16)
	if !ok {
		panic(hex)
	}
	return x
}

// fromPower returns 2^i + d.
func fromPower(i uint, d int64) *big.Int {
	x := new(big.Int).Lsh(big.NewInt(1), i)
	return x.Add(x, big.NewInt(d))
}

// primes returns primes of many lengths, up to the greatest below 2^256.
func primes() []*big.Int {
	l := []*big.Int{
		parse("FFFFFFFF00000001000000000000000000000000FFFFFFFFFFFFFFFFFFFFFFFF"), // P-256's prime
		parse("FFFFFFFF00000000FFFFFFFFFFFFFFFFBCE6FAADA7179E84F3B9CAC2FC632551"), // and order
		fromPower(256, -189),
		fromPower(255, -19),
		fromPower(127, -1),
		fromPower(89, -1),
		fromPower(61, -1),
		fromPower(32, 15),
		fromPower(32, -5),
	}
	for _, small := range []int64{3, 5, 7, 11, 13, 17, 251, 65537} {
		l = append(l, big.NewInt(small))
	}
	return l
}

// moduli returns the primes, and composite odd numbers.
func moduli() []*big.Int {
	l := primes()
	for _, small := range []int64{9, 15, 21, 255, 65535} {
		l = append(l, big.NewInt(small))
	}
	for _, i := range []uint{31, 32, 33, 63, 64, 128, 192, 224, 255, 256} {
		l = append(l, fromPower(i, -1))
		if i < 256 {
			l = append(l, fromPower(i, 1))
		}
	}
	random := rand.New(rand.NewSource(3))
	for i := range 12 {
		n := new(big.Int).Rand(random, fromPower(uint(256-20*i), 0))
		l = append(l, n.SetBit(n.SetBit(n, 0, 1), 2, 1))
	}
	return l
}

func newMod(t *testing.T, m *big.Int) *mont.Mod {
	t.Helper()
	x, e := mont.New(fromBig(m))
	if x == nil || e != api.OK {
		t.Fatalf("New(%x): got %v, %d", m, x, e)
	}
	return x
}

// numbers returns numbers near 0, near the modulus and its multiples, near
// words' ends and near R, and random ones.
func numbers(m *big.Int, random *rand.Rand) []*big.Int {
	var l []*big.Int
	put := func(n *big.Int, d int64) {
		x := new(big.Int).Add(n, big.NewInt(d))
		if x.Sign() >= 0 && x.Cmp(r) < 0 {
			l = append(l, x)
		}
	}
	greatest := new(big.Int).Sub(r, new(big.Int).Mod(r, m))
	half := new(big.Int).Rsh(m, 1)
	double := new(big.Int).Lsh(m, 1)
	for d := int64(-2); d <= 2; d++ {
		for _, n := range []*big.Int{new(big.Int), m, half, double, greatest, r} {
			put(n, d)
		}
	}
	for i := uint(32); i < 256; i += 32 {
		put(fromPower(i, 0), -1)
		put(fromPower(i, 0), 0)
	}
	for range 12 {
		put(new(big.Int).Rand(random, r), 0)
		put(new(big.Int).Rand(random, m), 0)
	}
	return l
}

func reduced(l []*big.Int, m *big.Int) []*big.Int {
	var small []*big.Int
	for _, n := range l {
		if n.Cmp(m) < 0 {
			small = append(small, n)
		}
	}
	return small
}

// A world is one modulus with the numbers that the tests take for it.
type world struct {
	x          *mont.Mod
	m, rInv    *big.Int
	any, below []*big.Int
	random     *rand.Rand
}

func eachModulus(t *testing.T, l []*big.Int, check func(t *testing.T, w world)) {
	random := rand.New(rand.NewSource(4))
	for _, m := range l {
		any := numbers(m, random)
		w := world{newMod(t, m), m, new(big.Int).ModInverse(r, m), any, reduced(any, m), random}
		t.Run(fmt.Sprintf("%x", m), func(t *testing.T) { check(t, w) })
	}
}

// mod returns a product modulo the modulus.
func (w world) mod(factors ...*big.Int) *big.Int {
	p := big.NewInt(1)
	for _, f := range factors {
		p.Mod(p.Mul(p, f), w.m)
	}
	return p.Mod(p, w.m)
}

func (w world) expect(t *testing.T, call string, got api.Num, want *big.Int) {
	t.Helper()
	if got != fromBig(want) {
		t.Fatalf("modulo %x: %s: got %x, want %x", w.m, call, toBig(got), want)
	}
}

func TestExamples(t *testing.T) {
	x := newMod(t, big.NewInt(7))
	if got := x.Mul(api.Num{3}, api.Num{5}); got != (api.Num{1}) {
		t.Errorf("Mul(3, 5): got %x", got)
	}
	if got := x.Reduce(api.Num{9}); got != (api.Num{2}) {
		t.Errorf("Reduce(9): got %x", got)
	}
	// 2^256 is 2 modulo 7, for 2^3 is 1.
	for _, c := range []struct {
		call string
		got  api.Num
		want uint32
	}{
		{"Modulus()", x.Modulus(), 7},
		{"One()", x.One(), 2},
		{"In(3)", x.In(api.Num{3}), 6},
		{"In(10)", x.In(api.Num{10}), 6},
		{"Out(6)", x.Out(api.Num{6}), 3},
		{"Times(6, 5)", x.Times(api.Num{6}, api.Num{5}), 1},
		{"Add(6, 5)", x.Add(api.Num{6}, api.Num{5}), 4},
		{"Add(3, 4)", x.Add(api.Num{3}, api.Num{4}), 0},
		{"Add(1, 5)", x.Add(api.Num{1}, api.Num{5}), 6},
		{"Sub(5, 6)", x.Sub(api.Num{5}, api.Num{6}), 6},
		{"Sub(6, 5)", x.Sub(api.Num{6}, api.Num{5}), 1},
		{"Sub(6, 6)", x.Sub(api.Num{6}, api.Num{6}), 0},
		{"Pow(6, 2)", x.Pow(api.Num{6}, api.Num{2}), 4}, // 3 3 is 2
		{"Pow(6, 0)", x.Pow(api.Num{6}, api.Num{}), 2},
		{"Inv(6)", x.Inv(api.Num{6}), 3}, // 3 5 is 1
	} {
		if c.got != (api.Num{c.want}) {
			t.Errorf("modulo 7: %s: got %x, want %d", c.call, c.got, c.want)
		}
	}
}

func TestNewRefuses(t *testing.T) {
	l := []*big.Int{new(big.Int), big.NewInt(1), big.NewInt(2), big.NewInt(4), fromPower(256, -2)}
	for i := uint(1); i < 256; i++ {
		l = append(l, fromPower(i, 0))
	}
	for _, m := range moduli() {
		l = append(l, new(big.Int).Sub(m, big.NewInt(1)))
	}
	for _, m := range l {
		if x, e := mont.New(fromBig(m)); x != nil || e != api.ErrArg {
			t.Errorf("New(%x): got %v, %d", m, x, e)
		}
	}
}

// Only the whole number 1 is refused, not one whose lowest word is 1.
func TestNewAcceptsLowestWordOne(t *testing.T) {
	for i := uint(32); i < 256; i += 32 {
		newMod(t, fromPower(i, 1))
	}
}

func TestModulusAndOne(t *testing.T) {
	eachModulus(t, moduli(), func(t *testing.T, w world) {
		w.expect(t, "Modulus()", w.x.Modulus(), w.m)
		w.expect(t, "One()", w.x.One(), w.mod(r))
	})
}

func TestAddAndSub(t *testing.T) {
	eachModulus(t, moduli(), func(t *testing.T, w world) {
		for _, a := range w.below {
			for _, b := range w.below {
				sum, difference := new(big.Int).Add(a, b), new(big.Int).Sub(a, b)
				w.expect(t, fmt.Sprintf("Add(%x, %x)", a, b), w.x.Add(fromBig(a), fromBig(b)), sum.Mod(sum, w.m))
				w.expect(t, fmt.Sprintf("Sub(%x, %x)", a, b), w.x.Sub(fromBig(a), fromBig(b)), difference.Mod(difference, w.m))
			}
		}
	})
}

func TestTimes(t *testing.T) {
	eachModulus(t, moduli(), func(t *testing.T, w world) {
		for _, a := range w.below {
			for _, b := range w.below {
				w.expect(t, fmt.Sprintf("Times(%x, %x)", a, b), w.x.Times(fromBig(a), fromBig(b)), w.mod(a, b, w.rInv))
			}
		}
	})
}

func TestMul(t *testing.T) {
	eachModulus(t, moduli(), func(t *testing.T, w world) {
		for _, a := range w.any {
			for _, b := range w.any {
				w.expect(t, fmt.Sprintf("Mul(%x, %x)", a, b), w.x.Mul(fromBig(a), fromBig(b)), w.mod(a, b))
			}
		}
	})
}

func TestOfOneNumber(t *testing.T) {
	eachModulus(t, moduli(), func(t *testing.T, w world) {
		for range 500 {
			w.any = append(w.any, new(big.Int).Rand(w.random, r))
		}
		for _, a := range w.any {
			w.expect(t, fmt.Sprintf("In(%x)", a), w.x.In(fromBig(a)), w.mod(a, r))
			w.expect(t, fmt.Sprintf("Reduce(%x)", a), w.x.Reduce(fromBig(a)), w.mod(a))
		}
		for _, a := range reduced(w.any, w.m) {
			w.expect(t, fmt.Sprintf("Out(%x)", a), w.x.Out(fromBig(a)), w.mod(a, w.rInv))
			if back := w.x.Out(w.x.In(fromBig(a))); back != fromBig(a) {
				t.Fatalf("modulo %x: %x in and out: got %x", w.m, a, toBig(back))
			}
		}
	})
}

func TestPow(t *testing.T) {
	eachModulus(t, moduli(), func(t *testing.T, w world) {
		for i, a := range w.below {
			plain := w.mod(a, w.rInv)
			for j, e := range w.any {
				if (i+j)%16 != 0 {
					continue // so that the test stays short
				}
				want := w.mod(new(big.Int).Exp(plain, e, w.m), r)
				w.expect(t, fmt.Sprintf("Pow(%x, %x)", a, e), w.x.Pow(fromBig(a), fromBig(e)), want)
			}
		}
	})
}

// A power with the exponent 0 is 1, even that of 0.
func TestPowZero(t *testing.T) {
	eachModulus(t, moduli(), func(t *testing.T, w world) {
		for _, a := range w.below {
			w.expect(t, fmt.Sprintf("Pow(%x, 0)", a), w.x.Pow(fromBig(a), api.Num{}), w.mod(r))
			w.expect(t, fmt.Sprintf("Pow(%x, 1)", a), w.x.Pow(fromBig(a), api.Num{1}), a)
		}
		w.expect(t, "Pow(0, 2^255)", w.x.Pow(api.Num{}, api.Num{7: 1 << 31}), new(big.Int))
	})
}

// Inv is a power, which is the inverse for a prime modulus only.
func TestInv(t *testing.T) {
	eachModulus(t, moduli(), func(t *testing.T, w world) {
		exponent := new(big.Int).Sub(w.m, big.NewInt(2))
		for _, a := range w.below {
			plain := w.mod(a, w.rInv)
			want := w.mod(new(big.Int).Exp(plain, exponent, w.m), r)
			w.expect(t, fmt.Sprintf("Inv(%x)", a), w.x.Inv(fromBig(a)), want)
		}
	})
}

func TestInverseModuloPrime(t *testing.T) {
	eachModulus(t, primes(), func(t *testing.T, w world) {
		if !w.m.ProbablyPrime(20) {
			t.Fatalf("%x isn't prime", w.m)
		}
		for _, a := range w.below {
			form := fromBig(a)
			if a.Sign() == 0 {
				w.expect(t, "Inv(0)", w.x.Inv(form), new(big.Int))
			} else if got := w.x.Times(w.x.Inv(form), form); got != w.x.One() {
				t.Fatalf("modulo %x: %x times its inverse: got %x", w.m, a, toBig(got))
			}
		}
	})
}

// Every pair of reduced numbers of small moduli.
func TestSmallModuli(t *testing.T) {
	for m := int64(3); m < 40; m += 2 {
		eachModulus(t, []*big.Int{big.NewInt(m)}, func(t *testing.T, w world) {
			for a := range m {
				for b := range m {
					x, y := big.NewInt(a), big.NewInt(b)
					call := fmt.Sprintf("of %d and %d", a, b)
					w.expect(t, "Times "+call, w.x.Times(fromBig(x), fromBig(y)), w.mod(x, y, w.rInv))
					w.expect(t, "Mul "+call, w.x.Mul(fromBig(x), fromBig(y)), big.NewInt(a*b%m))
					w.expect(t, "Add "+call, w.x.Add(fromBig(x), fromBig(y)), big.NewInt((a+b)%m))
					w.expect(t, "Sub "+call, w.x.Sub(fromBig(x), fromBig(y)), big.NewInt((a-b+m)%m))
				}
			}
		})
	}
}

// The calls on one Mod don't change it, and two don't touch each other.
func TestModsAreApart(t *testing.T) {
	seven, nine := newMod(t, big.NewInt(7)), newMod(t, big.NewInt(9))
	for range 3 {
		if seven.Mul(api.Num{5}, api.Num{6}) != (api.Num{2}) || nine.Mul(api.Num{5}, api.Num{6}) != (api.Num{3}) {
			t.Fatal("wrong product")
		}
		seven.Pow(api.Num{5}, api.Num{6})
		nine.Inv(api.Num{5})
	}
}

// Where a number must be reduced and isn't, the call still ends.
func TestUnreducedEnds(t *testing.T) {
	greatest := fromBig(fromPower(256, -1))
	for _, m := range moduli() {
		x := newMod(t, m)
		x.Add(greatest, greatest)
		x.Sub(api.Num{}, greatest)
		x.Times(greatest, greatest)
		x.Out(greatest)
		x.Pow(greatest, greatest)
		x.Inv(greatest)
	}
}

func TestNil(t *testing.T) {
	var x *mont.Mod
	a := api.Num{5, 6, 7, 8, 9, 10, 11, 12}
	for call, got := range map[string]api.Num{
		"Modulus": x.Modulus(),
		"Add":     x.Add(a, a),
		"Sub":     x.Sub(a, api.Num{1}),
		"Times":   x.Times(a, a),
		"In":      x.In(a),
		"Out":     x.Out(a),
		"One":     x.One(),
		"Pow":     x.Pow(a, a),
		"Inv":     x.Inv(a),
		"Mul":     x.Mul(a, a),
		"Reduce":  x.Reduce(a),
	} {
		if got != (api.Num{}) {
			t.Errorf("%s of nil: got %x", call, got)
		}
	}
}

func BenchmarkTimes(b *testing.B) {
	x, _ := mont.New(fromBig(primes()[0]))
	n := x.In(api.Num{1, 2, 3, 4, 5, 6, 7, 8})
	for b.Loop() {
		n = x.Times(n, n)
	}
}
