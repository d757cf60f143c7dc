package curve_test

import (
	"crypto/elliptic"
	"fmt"
	"math"
	"math/big"
	"math/rand"
	"testing"

	"portico/api"
	"portico/curve"
)

var (
	two256 = new(big.Int).Lsh(big.NewInt(1), 256)
	p      = parse("FFFFFFFF 00000001 00000000 00000000 00000000 FFFFFFFF FFFFFFFF FFFFFFFF")
	b      = parse("5AC635D8 AA3A93E7 B3EBBD55 769886BC 651D06B0 CC53B0F6 3BCE3C3E 27D2604B")
	n      = parse("FFFFFFFF 00000000 FFFFFFFF FFFFFFFF BCE6FAAD A7179E84 F3B9CAC2 FC632551")
	base   = point{
		parse("6B17D1F2 E12C4247 F8BCE6E5 63A440F2 77037D81 2DEB33A0 F4A13945 D898C296"),
		parse("4FE342E2 FE1A7F9B 8EE7EB4A 7C0F9E16 2BCE3357 6B315ECE CBB64068 37BF51F5"),
	}
	greatest = new(big.Int).Sub(two256, big.NewInt(1))
	none     = curve.Point{None: true}
)

// A point of the reference arithmetic; x is nil for the point at infinity.
type point struct {
	x, y *big.Int
}

func parse(hex string) *big.Int {
	x := new(big.Int)
	for _, digit := range hex {
		if digit == ' ' {
			continue
		}
		d, ok := new(big.Int).SetString(string(digit), 16)
		if !ok {
			panic(hex)
		}
		x.Add(x.Lsh(x, 4), d)
	}
	return x
}

func toBig(a api.Num) *big.Int {
	x := new(big.Int)
	for i := len(a) - 1; i >= 0; i-- {
		x.Lsh(x, 32)
		x.Or(x, new(big.Int).SetUint64(uint64(a[i])))
	}
	return x
}

func fromBig(x *big.Int) api.Num {
	if x.Sign() < 0 || x.Cmp(two256) >= 0 {
		panic("no number: " + x.String())
	}
	var a api.Num
	low := big.NewInt(math.MaxUint32)
	for i := range a {
		word := new(big.Int).Rsh(x, uint(32*i))
		a[i] = uint32(word.And(word, low).Uint64())
	}
	return a
}

func fromPoint(a point) curve.Point {
	if a.x == nil {
		return none
	}
	return curve.Point{X: fromBig(a.x), Y: fromBig(a.y)}
}

// mod brings an integer below the prime.
func mod(x *big.Int) *big.Int {
	return x.Mod(x, p)
}

func minus(a, c *big.Int) *big.Int {
	return mod(new(big.Int).Sub(a, c))
}

func times(a, c *big.Int) *big.Int {
	return mod(new(big.Int).Mul(a, c))
}

// rightSide returns x^3 - 3x + b.
func rightSide(x *big.Int) *big.Int {
	cube := times(times(x, x), x)
	return mod(cube.Add(cube.Sub(cube, times(big.NewInt(3), x)), b))
}

// withX returns a point of the curve with that x, if there is one.
func withX(x *big.Int) (point, bool) {
	y := new(big.Int).ModSqrt(rightSide(x), p)
	return point{x, y}, y != nil
}

func negative(a point) point {
	if a.x == nil {
		return a
	}
	return point{a.x, minus(new(big.Int), a.y)}
}

// add is the chord-and-tangent law as textbooks have it.
func add(a, c point) point {
	if a.x == nil {
		return c
	}
	if c.x == nil {
		return a
	}
	rise, run := minus(c.y, a.y), minus(c.x, a.x)
	if run.Sign() == 0 {
		if a.y.Cmp(c.y) != 0 {
			return point{}
		}
		rise = minus(times(big.NewInt(3), times(a.x, a.x)), big.NewInt(3))
		run = times(big.NewInt(2), a.y)
	}
	slope := times(rise, new(big.Int).ModInverse(run, p))
	x := minus(minus(times(slope, slope), a.x), c.x)
	return point{x, minus(times(slope, minus(a.x, x)), a.y)}
}

func mult(k *big.Int, a point) point {
	var sum point
	for i := k.BitLen() - 1; i >= 0; i-- {
		sum = add(sum, sum)
		if k.Bit(i) == 1 {
			sum = add(sum, a)
		}
	}
	return sum
}

// specialPoints have an x or a y of few bits, or an x just below the prime.
func specialPoints() []point {
	l := []point{
		{parse("D7325D7646CD60D80A92738CEB345F844CFFAF35841022CAB176F692DE8DE1D7"), big.NewInt(5)},
		{parse("9B21C2DE1DA31D68731DBDAF97D7AB3F979131E28E3DC5B2077D5A7187914A78"), big.NewInt(6)},
		{parse("B2ED6EACBC9F7DA8564D94B7E4DF51FCCFFA296DC6693E4FD7ACCEAED56AC453"), big.NewInt(7)},
	}
	for d := int64(-20); d < 20; d++ {
		if a, ok := withX(mod(big.NewInt(d))); ok {
			l = append(l, a)
		}
	}
	return l
}

// somePoints are the special points, small multiples of the base point and
// random points, all with their opposites, and the point at infinity.
func somePoints(random *rand.Rand) []point {
	l := specialPoints()
	for k, a := 1, base; k < 8; k++ {
		l = append(l, a)
		a = add(a, base)
	}
	for range 6 {
		l = append(l, mult(new(big.Int).Rand(random, n), base))
	}
	for i := len(l) - 1; i >= 0; i-- {
		l = append(l, negative(l[i]))
	}
	return append(l, point{})
}

// someNumbers are near 0, near the order, its half and the prime, at words'
// ends, near 2^256, and random.
func someNumbers(random *rand.Rand) []*big.Int {
	var l []*big.Int
	for _, middle := range []*big.Int{new(big.Int), n, new(big.Int).Rsh(n, 1), p, two256} {
		for d := int64(-3); d <= 3; d++ {
			k := new(big.Int).Add(middle, big.NewInt(d))
			if k.Sign() >= 0 && k.Cmp(two256) < 0 {
				l = append(l, k)
			}
		}
	}
	for i := uint(32); i < 256; i += 32 {
		k := new(big.Int).Lsh(big.NewInt(1), i)
		l = append(l, k, new(big.Int).Sub(k, big.NewInt(1)))
	}
	for range 8 {
		l = append(l, new(big.Int).Rand(random, two256))
	}
	return l
}

func expect(t *testing.T, got curve.Point, want point, call string, arguments ...any) {
	t.Helper()
	if got != fromPoint(want) {
		t.Fatalf("%s: got (%x, %x, %t), want (%x, %x)",
			fmt.Sprintf(call, arguments...), toBig(got.X), toBig(got.Y), got.None, want.x, want.y)
	}
}

func TestOrderAndBase(t *testing.T) {
	if curve.Order() != fromBig(n) {
		t.Errorf("Order: got %x", curve.Order())
	}
	expect(t, curve.Base(), base, "Base")
}

// The document's numbers, as the tests write them, are those of P-256.
func TestNumbersAreThoseOfP256(t *testing.T) {
	known := elliptic.P256().Params()
	for name, pair := range map[string][2]*big.Int{
		"prime": {p, known.P}, "b": {b, known.B}, "order": {n, known.N},
		"base's x": {base.x, known.Gx}, "base's y": {base.y, known.Gy},
	} {
		if pair[0].Cmp(pair[1]) != 0 {
			t.Errorf("%s: got %x, want %x", name, pair[0], pair[1])
		}
	}
}

// What is given out is a copy.
func TestOrderAndBaseAreNew(t *testing.T) {
	order, a := curve.Order(), curve.Base()
	order[0], a.X[0], a.Y[7] = 1, 2, 3
	if curve.Order() != fromBig(n) || curve.Base() != fromPoint(base) {
		t.Error("the order or the base point can be modified")
	}
}

func TestOnPoints(t *testing.T) {
	c := curve.New()
	for _, a := range somePoints(rand.New(rand.NewSource(1))) {
		got := fromPoint(a)
		if c.On(got) != (a.x != nil) {
			t.Errorf("(%x, %x): got %t", a.x, a.y, c.On(got))
		}
		got.None = true // whatever X and Y are then
		if c.On(got) {
			t.Errorf("(%x, %x) with None set is on the curve", a.x, a.y)
		}
	}
}

func TestOnOtherPairs(t *testing.T) {
	c := curve.New()
	for _, a := range somePoints(rand.New(rand.NewSource(2))) {
		if a.x == nil {
			continue
		}
		good := fromPoint(a)
		for i := range 256 {
			badX, badY := good, good
			badX.X[i/32] ^= 1 << (i % 32)
			badY.Y[i/32] ^= 1 << (i % 32)
			for _, bad := range []curve.Point{badX, badY} {
				if c.On(bad) {
					t.Fatalf("bit %d of (%x, %x) changed: it is on the curve", i, a.x, a.y)
				}
			}
		}
		if c.On(curve.Point{X: good.Y, Y: good.X}) {
			t.Errorf("(%x, %x) is on the curve", a.y, a.x)
		}
	}
	if c.On(curve.Point{}) {
		t.Error("(0, 0) is on the curve")
	}
}

// No x that has no point is taken for one, whatever the y.
func TestOnWithoutRoot(t *testing.T) {
	c := curve.New()
	for d := range int64(64) {
		x := big.NewInt(d)
		if _, ok := withX(x); ok {
			continue
		}
		for _, y := range []*big.Int{new(big.Int), big.NewInt(1), rightSide(x), new(big.Int).Sub(p, big.NewInt(1))} {
			if c.On(curve.Point{X: fromBig(x), Y: fromBig(y)}) {
				t.Errorf("(%x, %x) is on the curve", x, y)
			}
		}
	}
}

// Coordinates of a point plus the prime aren't those of a point.
func TestOnUnreduced(t *testing.T) {
	c := curve.New()
	var unreducedX, unreducedY int
	for _, a := range specialPoints() {
		x, y := new(big.Int).Add(a.x, p), new(big.Int).Add(a.y, p)
		if !c.On(fromPoint(a)) {
			t.Errorf("(%x, %x) isn't on the curve", a.x, a.y)
		}
		if x.Cmp(two256) < 0 {
			unreducedX++
			if c.On(fromPoint(point{x, a.y})) {
				t.Errorf("(%x, %x) is on the curve", x, a.y)
			}
		}
		if y.Cmp(two256) < 0 {
			unreducedY++
			if c.On(fromPoint(point{a.x, y})) {
				t.Errorf("(%x, %x) is on the curve", a.x, y)
			}
		}
	}
	if unreducedX == 0 || unreducedY == 0 {
		t.Error("no such point among the special ones")
	}
	for _, x := range []*big.Int{p, greatest} {
		if c.On(fromPoint(point{x, base.y})) || c.On(fromPoint(point{base.x, x})) || c.On(fromPoint(point{x, x})) {
			t.Errorf("a point with the coordinate %x is on the curve", x)
		}
	}
}

// Among the pairs are equal points, opposite ones and the point at infinity.
func TestAdd(t *testing.T) {
	c := curve.New()
	l := somePoints(rand.New(rand.NewSource(3)))
	for _, a := range l {
		for _, d := range l {
			expect(t, c.Add(fromPoint(a), fromPoint(d)), add(a, d), "(%x, %x) + (%x, %x)", a.x, a.y, d.x, d.y)
		}
	}
}

func TestAddOfSpecialPairs(t *testing.T) {
	c := curve.New()
	for _, a := range somePoints(rand.New(rand.NewSource(4))) {
		given := fromPoint(a)
		expect(t, c.Add(given, fromPoint(negative(a))), point{}, "a point and its opposite")
		expect(t, c.Add(given, none), a, "a point and infinity")
		expect(t, c.Add(none, given), a, "infinity and a point")
		twice := c.Add(given, given)
		if a.x != nil && (twice.None || twice == given) {
			t.Errorf("(%x, %x) twice: got %v", a.x, a.y, twice)
		}
	}
	expect(t, c.Add(none, none), point{}, "infinity twice")
}

// Where None is set, X and Y count for nothing.
func TestCoordinatesOfInfinity(t *testing.T) {
	c := curve.New()
	k, a := fromBig(big.NewInt(3)), fromPoint(base)
	for _, other := range []api.Num{{}, {1}, fromBig(p), fromBig(greatest)} {
		for _, filled := range []curve.Point{
			{X: other, Y: other, None: true}, {X: a.X, Y: other, None: true}, {X: a.X, Y: a.Y, None: true},
		} {
			expect(t, c.Add(filled, filled), point{}, "Add of infinity twice")
			expect(t, c.Add(filled, a), base, "Add of infinity and the base point")
			expect(t, c.Add(a, filled), base, "Add of the base point and infinity")
			expect(t, c.Mult(k, filled), point{}, "Mult of infinity")
			expect(t, c.Mult(api.Num{}, filled), point{}, "Mult of 0 and infinity")
			expect(t, c.Two(k, filled, k, filled), point{}, "Two of infinity twice")
			expect(t, c.Two(k, a, k, filled), mult(big.NewInt(3), base), "Two of the base point and infinity")
			expect(t, c.Two(k, filled, k, a), mult(big.NewInt(3), base), "Two of infinity and the base point")
		}
	}
}

func TestMult(t *testing.T) {
	c := curve.New()
	random := rand.New(rand.NewSource(5))
	numbers := someNumbers(random)
	for i, a := range somePoints(random) {
		for j, k := range numbers {
			if a.x != base.x && (i+j)%8 != 0 {
				continue // so that the test stays short
			}
			expect(t, c.Mult(fromBig(k), fromPoint(a)), mult(k, a), "%x (%x, %x)", k, a.x, a.y)
		}
	}
}

func TestSmallMultiples(t *testing.T) {
	c := curve.New()
	var sum point
	for k := range int64(70) {
		expect(t, c.Mult(fromBig(big.NewInt(k)), curve.Base()), sum, "%d times the base point", k)
		opposite := new(big.Int).Sub(n, big.NewInt(k))
		expect(t, c.Mult(fromBig(opposite), curve.Base()), negative(sum), "%x times the base point", opposite)
		sum = add(sum, base)
	}
}

// Each bit of the number counts for its power of 2.
func TestMultByPowersOfTwo(t *testing.T) {
	c := curve.New()
	a := base
	for i := range 256 {
		k := new(big.Int).Lsh(big.NewInt(1), uint(i))
		expect(t, c.Mult(fromBig(k), curve.Base()), a, "2^%d times the base point", i)
		a = add(a, a)
	}
}

// The order times any point is the point at infinity, and it comes round then.
func TestMultOfOrder(t *testing.T) {
	c := curve.New()
	for _, a := range somePoints(rand.New(rand.NewSource(6))) {
		given := fromPoint(a)
		above := new(big.Int).Add(n, big.NewInt(1))
		below := new(big.Int).Sub(n, big.NewInt(1))
		expect(t, c.Mult(curve.Order(), given), point{}, "order (%x, %x)", a.x, a.y)
		expect(t, c.Mult(api.Num{}, given), point{}, "0 (%x, %x)", a.x, a.y)
		expect(t, c.Mult(fromBig(above), given), a, "(order + 1) (%x, %x)", a.x, a.y)
		expect(t, c.Mult(fromBig(below), given), negative(a), "(order - 1) (%x, %x)", a.x, a.y)
	}
}

func TestTwo(t *testing.T) {
	c := curve.New()
	random := rand.New(rand.NewSource(7))
	points, numbers := somePoints(random), someNumbers(random)
	for range 400 {
		a, d := points[random.Intn(len(points))], points[random.Intn(len(points))]
		k, m := numbers[random.Intn(len(numbers))], numbers[random.Intn(len(numbers))]
		want := add(mult(k, a), mult(m, d))
		got := c.Two(fromBig(k), fromPoint(a), fromBig(m), fromPoint(d))
		expect(t, got, want, "%x (%x, %x) + %x (%x, %x)", k, a.x, a.y, m, d.x, d.y)
	}
}

// Small numbers and multiples of one point, where parts of the sum meet: they
// are equal, opposite or the point at infinity again and again.
func TestTwoOfRelatedPoints(t *testing.T) {
	c := curve.New()
	const most, factors = 3, 5
	multiple := map[int64]point{}
	for k := int64(-2 * most * factors); k <= 2*most*factors; k++ {
		multiple[k] = mult(new(big.Int).Mod(big.NewInt(k), n), base)
	}
	for i := int64(-most); i <= most; i++ {
		for j := int64(-most); j <= most; j++ {
			for k := range int64(factors) {
				for m := range int64(factors) {
					got := c.Two(fromBig(big.NewInt(k)), fromPoint(multiple[i]), fromBig(big.NewInt(m)), fromPoint(multiple[j]))
					expect(t, got, multiple[k*i+m*j], "%d (%d base) + %d (%d base)", k, i, m, j)
				}
			}
		}
	}
}

func TestTwoThatCancels(t *testing.T) {
	c := curve.New()
	random := rand.New(rand.NewSource(8))
	for _, a := range somePoints(random) {
		k := new(big.Int).Rand(random, n)
		opposite := new(big.Int).Sub(n, k)
		given, turned := fromPoint(a), fromPoint(negative(a))
		expect(t, c.Two(fromBig(k), given, fromBig(k), turned), point{}, "%x a + %x (-a)", k, k)
		expect(t, c.Two(fromBig(k), given, fromBig(opposite), given), point{}, "%x a + %x a", k, opposite)
		expect(t, c.Two(fromBig(k), given, fromBig(k), given), mult(new(big.Int).Lsh(k, 1), a), "%x a twice", k)
	}
}

// A second reference, which is none of these tests' own.
func TestAgainstLibrary(t *testing.T) {
	known := elliptic.P256()
	c := curve.New()
	random := rand.New(rand.NewSource(9))
	for range 100 {
		k, m := new(big.Int).Rand(random, two256), new(big.Int).Rand(random, two256)
		var x, y [32]byte
		ax, ay := known.ScalarBaseMult(k.FillBytes(x[:]))
		bx, by := known.ScalarMult(ax, ay, m.FillBytes(y[:]))
		a, d := point{ax, ay}, point{bx, by}
		expect(t, c.Mult(fromBig(k), curve.Base()), a, "%x times the base point", k)
		expect(t, c.Mult(fromBig(m), fromPoint(a)), d, "%x (%x, %x)", m, ax, ay)
		sumX, sumY := known.Add(ax, ay, bx, by)
		expect(t, c.Add(fromPoint(a), fromPoint(d)), point{sumX, sumY}, "(%x, %x) + (%x, %x)", ax, ay, bx, by)
		if !c.On(fromPoint(a)) || !c.On(fromPoint(d)) {
			t.Fatalf("(%x, %x) or (%x, %x) isn't on the curve", ax, ay, bx, by)
		}
	}
}

// The public key of RFC 6979, A.2.5.
func TestKnownMultiple(t *testing.T) {
	k := parse("C9AFA9D8 45BA7516 6B5C2157 67B1D693 4E50C3DB 36E89B12 7B8A622B 120F6721")
	want := point{
		parse("60FED4BA 255A9D31 C961EB74 C6356D68 C049B892 3B61FA6C E669622E 60F29FB6"),
		parse("7903FE10 08B8BC99 A41AE9E9 5628BC64 F2F1B20C 2D7E9F51 77A3C294 D4462299"),
	}
	expect(t, curve.New().Mult(fromBig(k), curve.Base()), want, "the key of RFC 6979")
}

// Calls leave the curve as it is, and one curve is like another.
func TestCallsLeaveTheCurve(t *testing.T) {
	c := curve.New()
	first := c.Two(api.Num{5}, curve.Base(), api.Num{6}, curve.Base())
	c.Mult(fromBig(greatest), curve.Point{X: fromBig(greatest), Y: fromBig(greatest)})
	c.Add(none, none)
	c.On(curve.Point{})
	for _, other := range []*curve.Curve{c, curve.New()} {
		if other.Two(api.Num{5}, curve.Base(), api.Num{6}, curve.Base()) != first || !other.On(first) {
			t.Error("a later call is different")
		}
	}
}

// Where the arguments are no points, or the curve is none of New's, the calls
// still end.
func TestOtherArgumentsEnd(t *testing.T) {
	l := []curve.Point{
		{}, {X: fromBig(greatest), Y: fromBig(greatest)}, {X: fromBig(p), Y: fromBig(p)},
		{X: api.Num{1}, Y: api.Num{}}, {X: api.Num{}, Y: api.Num{1}}, curve.Base(), none,
	}
	for _, c := range []*curve.Curve{curve.New(), new(curve.Curve), nil} {
		for _, a := range l {
			c.On(a)
			for _, d := range l {
				c.Add(a, d)
				c.Two(fromBig(greatest), a, curve.Order(), d)
			}
			c.Mult(fromBig(greatest), a)
		}
	}
}

func TestNil(t *testing.T) {
	var c *curve.Curve
	a := curve.Base()
	if c.On(a) || c.On(curve.Point{}) || c.On(none) {
		t.Error("On of nil")
	}
	expect(t, c.Add(a, a), point{}, "Add of nil")
	expect(t, c.Add(none, a), point{}, "Add of nil")
	expect(t, c.Two(api.Num{1}, a, api.Num{2}, a), point{}, "Two of nil")
	expect(t, c.Mult(api.Num{1}, a), point{}, "Mult of nil")
}

func BenchmarkTwo(t *testing.B) {
	c := curve.New()
	k, m := fromBig(n), fromBig(greatest)
	for t.Loop() {
		c.Two(k, curve.Base(), m, curve.Base())
	}
}
