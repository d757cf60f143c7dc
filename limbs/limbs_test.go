package limbs_test

import (
	"bytes"
	"math"
	"math/big"
	"math/rand"
	"testing"

	"portico/api"
	"portico/limbs"
)

var (
	// The bytes 01 to 20 (base 16), and their number.
	countingBytes = []byte{
		0x01, 0x02, 0x03, 0x04, 0x05, 0x06, 0x07, 0x08, 0x09, 0x0A, 0x0B, 0x0C, 0x0D, 0x0E, 0x0F, 0x10,
		0x11, 0x12, 0x13, 0x14, 0x15, 0x16, 0x17, 0x18, 0x19, 0x1A, 0x1B, 0x1C, 0x1D, 0x1E, 0x1F, 0x20,
	}
	countingNum = api.Num{
		0x1D1E1F20, 0x191A1B1C, 0x15161718, 0x11121314, 0x0D0E0F10, 0x090A0B0C, 0x05060708, 0x01020304,
	}

	one      = api.Num{1}
	greatest = api.Num{
		math.MaxUint32, math.MaxUint32, math.MaxUint32, math.MaxUint32,
		math.MaxUint32, math.MaxUint32, math.MaxUint32, math.MaxUint32,
	}
	modulus = new(big.Int).Lsh(big.NewInt(1), 256)
)

// toBig goes by the words alone, so that it doesn't lean on what is tested.
func toBig(n api.Num) *big.Int {
	x := new(big.Int)
	for i := len(n) - 1; i >= 0; i-- {
		x.Lsh(x, 32)
		x.Or(x, new(big.Int).SetUint64(uint64(n[i])))
	}
	return x
}

func fromBig(x *big.Int) api.Num {
	var n api.Num
	low := big.NewInt(math.MaxUint32)
	for i := range n {
		word := new(big.Int).Rsh(x, uint(32*i))
		n[i] = uint32(word.And(word, low).Uint64())
	}
	return n
}

// edges returns powers of 2 and their neighbors, most of them at the ends of
// words, numbers of equal words, and numbers that differ from those in one word.
func edges() []api.Num {
	l := []api.Num{{}, one, greatest, countingNum}
	for i := range 256 {
		if end := i % 32; end > 1 && end < 30 && end != 16 {
			continue
		}
		power := new(big.Int).Lsh(big.NewInt(1), uint(i))
		for d := int64(-1); d <= 1; d++ {
			l = append(l, fromBig(new(big.Int).Add(power, big.NewInt(d))))
		}
	}
	for _, word := range []uint32{1, 0x7FFFFFFF, 0x80000000, 0xFFFFFFFE, 0xFFFFFFFF} {
		var equal api.Num
		for i := range equal {
			equal[i] = word
		}
		for i := range equal {
			other := equal
			other[i]--
			l = append(l, other)
			other[i] += 2
			l = append(l, other)
		}
		l = append(l, equal)
	}
	return l
}

// randomNum prefers words at whose ends a carry is born or goes on.
func randomNum(r *rand.Rand) api.Num {
	var n api.Num
	for i := range n {
		switch r.Intn(5) {
		case 0:
			n[i] = 0
		case 1:
			n[i] = math.MaxUint32
		default:
			n[i] = r.Uint32()
		}
	}
	return n
}

// eachPair calls check with the pairs of the edges, and with random pairs.
func eachPair(check func(a, b api.Num)) {
	l := edges()
	for _, a := range l {
		for _, b := range l {
			check(a, b)
		}
	}
	r := rand.New(rand.NewSource(2))
	for range 20000 {
		a, b := randomNum(r), randomNum(r)
		check(a, b)
		check(a, a)
		b = a // equal but for one word, maybe
		b[r.Intn(len(b))] = r.Uint32()
		check(a, b)
	}
}

func TestKnownEncoding(t *testing.T) {
	n, e := limbs.Read(countingBytes)
	if n != countingNum || e != api.OK {
		t.Errorf("Read: got %x, %d", n, e)
	}
	if b := limbs.Bytes(countingNum); !bytes.Equal(b[:], countingBytes) {
		t.Errorf("Bytes: got %x", b)
	}
}

// Each byte alone shows that it has its place, in both directions.
func TestEachByteAlone(t *testing.T) {
	for i := range 32 {
		for _, x := range []byte{0x01, 0x7F, 0x80, 0xFF} {
			var b [32]byte
			b[i] = x
			var want api.Num
			want[(31-i)/4] = uint32(x) << (8 * ((31 - i) % 4))
			if n, e := limbs.Read(b[:]); n != want || e != api.OK {
				t.Errorf("byte %d: Read: got %x, %d", i, n, e)
			}
			if limbs.Bytes(want) != b {
				t.Errorf("byte %d: Bytes: got %x", i, limbs.Bytes(want))
			}
		}
	}
}

func TestReadAndBytesAreInverse(t *testing.T) {
	r := rand.New(rand.NewSource(1))
	l := edges()
	for range 1000 {
		l = append(l, randomNum(r))
	}
	for _, n := range l {
		b := limbs.Bytes(n)
		if new(big.Int).SetBytes(b[:]).Cmp(toBig(n)) != 0 {
			t.Fatalf("Bytes(%x): got %x", n, b)
		}
		if back, e := limbs.Read(b[:]); back != n || e != api.OK {
			t.Fatalf("Read(%x): got %x, %d", b, back, e)
		}
	}
}

func TestReadOfAnotherLength(t *testing.T) {
	full := bytes.Repeat([]byte{0xA5}, 300)
	for n := range full {
		if n == 32 {
			continue
		}
		if got, e := limbs.Read(full[:n]); got != (api.Num{}) || e != api.ErrLen {
			t.Errorf("%d bytes: got %x, %d", n, got, e)
		}
	}
	if got, e := limbs.Read(nil); got != (api.Num{}) || e != api.ErrLen {
		t.Errorf("nil: got %x, %d", got, e)
	}
}

// The length counts, not the capacity; and neither is touched.
func TestReadLeavesItsArgument(t *testing.T) {
	memory := bytes.Repeat([]byte{0x5A}, 100)
	copy(memory[10:], countingBytes)
	before := bytes.Clone(memory)
	for _, part := range [][]byte{memory[10:42], memory[10:42:42], memory[10:41], memory[10:10]} {
		limbs.Read(part)
		if !bytes.Equal(memory, before) {
			t.Fatalf("%d bytes were modified", len(part))
		}
	}
	if n, e := limbs.Read(memory[10:42]); n != countingNum || e != api.OK {
		t.Errorf("with unused capacity: got %x, %d", n, e)
	}
}

func TestAdd(t *testing.T) {
	eachPair(func(a, b api.Num) {
		exact := new(big.Int).Add(toBig(a), toBig(b))
		wantCarry := uint32(exact.Bit(256))
		want := fromBig(exact.Mod(exact, modulus))
		if sum, carry := limbs.Add(a, b); sum != want || carry != wantCarry {
			t.Fatalf("Add(%x, %x): got %x, %d", a, b, sum, carry)
		}
	})
}

func TestKnownSums(t *testing.T) {
	top := api.Num{7: 0x80000000}
	almostGreatest := greatest
	almostGreatest[0]--
	for _, c := range []struct {
		a, b, want api.Num
		carry      uint32
	}{
		{greatest, one, api.Num{}, 1}, // the chapter's example
		{one, greatest, api.Num{}, 1},
		{greatest, greatest, almostGreatest, 1},
		{greatest, api.Num{}, greatest, 0},
		{greatest, almostGreatest, api.Num{0xFFFFFFFD, 0xFFFFFFFF, 0xFFFFFFFF, 0xFFFFFFFF, 0xFFFFFFFF, 0xFFFFFFFF, 0xFFFFFFFF, 0xFFFFFFFF}, 1},
		{api.Num{}, api.Num{}, api.Num{}, 0},
		{top, top, api.Num{}, 1},
		{api.Num{0xFFFFFFFF}, one, api.Num{0, 1}, 0},
	} {
		if sum, carry := limbs.Add(c.a, c.b); sum != c.want || carry != c.carry {
			t.Errorf("Add(%x, %x): got %x, %d", c.a, c.b, sum, carry)
		}
	}
}

func TestSub(t *testing.T) {
	eachPair(func(a, b api.Num) {
		exact := new(big.Int).Sub(toBig(a), toBig(b))
		var wantBorrow uint32
		if exact.Sign() < 0 {
			wantBorrow = 1
		}
		want := fromBig(exact.Mod(exact, modulus))
		if difference, borrow := limbs.Sub(a, b); difference != want || borrow != wantBorrow {
			t.Fatalf("Sub(%x, %x): got %x, %d", a, b, difference, borrow)
		}
	})
}

func TestKnownDifferences(t *testing.T) {
	for _, c := range []struct {
		a, b, want api.Num
		borrow     uint32
	}{
		{api.Num{}, one, greatest, 1},
		{api.Num{}, greatest, one, 1},
		{one, greatest, api.Num{2}, 1},
		{greatest, greatest, api.Num{}, 0},
		{greatest, api.Num{}, greatest, 0},
		{api.Num{}, api.Num{}, api.Num{}, 0},
		{api.Num{0, 1}, one, api.Num{0xFFFFFFFF}, 0},
	} {
		if difference, borrow := limbs.Sub(c.a, c.b); difference != c.want || borrow != c.borrow {
			t.Errorf("Sub(%x, %x): got %x, %d", c.a, c.b, difference, borrow)
		}
	}
}

func TestCompare(t *testing.T) {
	eachPair(func(a, b api.Num) {
		if got := limbs.Compare(a, b); got != toBig(a).Cmp(toBig(b)) {
			t.Fatalf("Compare(%x, %x): got %d", a, b, got)
		}
	})
}

// The most significant word that differs decides, as an unsigned number.
func TestKnownOrder(t *testing.T) {
	low := greatest
	low[7] = 0
	for _, c := range []struct{ less, greater api.Num }{
		{low, api.Num{7: 1}},
		{api.Num{7: 1}, api.Num{7: 0x80000000}},
		{api.Num{0x7FFFFFFF}, api.Num{0x80000000}},
		{api.Num{}, one},
		{api.Num{}, greatest},
	} {
		if limbs.Compare(c.less, c.greater) != -1 || limbs.Compare(c.greater, c.less) != 1 {
			t.Errorf("wrong order of %x and %x", c.less, c.greater)
		}
		if limbs.Compare(c.less, c.less) != 0 || limbs.Compare(c.greater, c.greater) != 0 {
			t.Errorf("%x or %x isn't equal to itself", c.less, c.greater)
		}
	}
}

func TestBit(t *testing.T) {
	for _, n := range edges() {
		x := toBig(n)
		for i := range 256 {
			if got := limbs.Bit(n, i); got != uint32(x.Bit(i)) {
				t.Fatalf("Bit(%x, %d): got %d", n, i, got)
			}
		}
	}
}

func TestEachBitAlone(t *testing.T) {
	for set := range 256 {
		var n api.Num
		n[set/32] = 1 << (set % 32)
		for i := range 256 {
			got := limbs.Bit(n, i)
			if (got == 1) != (i == set) || got > 1 {
				t.Fatalf("bit %d of 2^%d: got %d", i, set, got)
			}
		}
	}
}

func TestBitOutside(t *testing.T) {
	for _, i := range []int{
		-1, -31, -32, -33, -256, -257, math.MinInt, math.MinInt + 1, math.MinInt32,
		256, 257, 287, 288, 512, math.MaxInt32, 1 << 32, 1<<32 + 1, math.MaxInt - 1, math.MaxInt,
	} {
		if got := limbs.Bit(greatest, i); got != 0 {
			t.Errorf("Bit %d: got %d", i, got)
		}
	}
	if limbs.Bit(greatest, 0) != 1 || limbs.Bit(greatest, 255) != 1 {
		t.Error("the first or the last bit isn't there")
	}
}

func TestZero(t *testing.T) {
	if !limbs.Zero(api.Num{}) {
		t.Error("0 isn't 0")
	}
	for i := range 256 {
		var n api.Num
		n[i/32] = 1 << (i % 32)
		if limbs.Zero(n) {
			t.Errorf("2^%d is 0", i)
		}
	}
	for _, n := range []api.Num{greatest, countingNum} {
		if limbs.Zero(n) {
			t.Errorf("%x is 0", n)
		}
	}
}
