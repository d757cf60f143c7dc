package bytes_test

import (
	"math"
	"math/rand"
	"slices"
	"testing"

	"portico/bytes"
)

const greatest = math.MaxUint32

// The calls that take from a cursor, and how many bytes each needs.
var takers = []struct {
	name string
	need int
	call func(c *bytes.Cursor) uint32
}{
	{"U8", 1, func(c *bytes.Cursor) uint32 { return uint32(c.U8()) }},
	{"U16", 2, func(c *bytes.Cursor) uint32 { return uint32(c.U16()) }},
	{"U32", 4, func(c *bytes.Cursor) uint32 { return c.U32() }},
	{"Take(0)", 0, func(c *bytes.Cursor) uint32 { return uint32(len(c.Take(0))) }},
	{"Take(1)", 1, func(c *bytes.Cursor) uint32 { return uint32(len(c.Take(1))) }},
	{"Take(3)", 3, func(c *bytes.Cursor) uint32 { return uint32(len(c.Take(3))) }},
}

// counting returns the bytes 1, 2, 3, .. up to n.
func counting(n int) []byte {
	b := make([]byte, n)
	for i := range b {
		b[i] = byte(i + 1)
	}
	return b
}

// mustBe checks what a cursor says of itself.
func mustBe(t *testing.T, c *bytes.Cursor, bad, end bool) {
	t.Helper()
	if c.Bad() != bad || c.End() != end {
		t.Fatalf("Bad and End: got %t, %t; want %t, %t", c.Bad(), c.End(), bad, end)
	}
}

// mustGiveNothing checks that every call on a failed cursor returns nothing, and
// that the cursor stays failed.
func mustGiveNothing(t *testing.T, c *bytes.Cursor) {
	t.Helper()
	for range 2 {
		for _, k := range takers {
			mustBe(t, c, true, false)
			if got := k.call(c); got != 0 {
				t.Fatalf("%s after the failure: got %d", k.name, got)
			}
		}
	}
	mustBe(t, c, true, false)
}

func TestExample(t *testing.T) {
	c := bytes.At([]byte{0x01, 0x02, 0x03})
	if got := c.U16(); got != 0x0201 {
		t.Errorf("first U16: got %x", got)
	}
	mustBe(t, c, false, false)
	if got := c.U16(); got != 0 {
		t.Errorf("second U16: got %x", got)
	}
	mustGiveNothing(t, c)
}

func TestOneAfterTheOther(t *testing.T) {
	c := bytes.At([]byte{0xF1, 0xE2, 0xD3, 0xC4, 0xB5, 0xA6, 0x97, 0x88, 0x79, 0x6A})
	mustBe(t, c, false, false)
	if got := c.U32(); got != 0xC4D3E2F1 {
		t.Errorf("U32: got %x", got)
	}
	if got := c.U8(); got != 0xB5 {
		t.Errorf("U8: got %x", got)
	}
	if got := c.Take(2); !slices.Equal(got, []byte{0xA6, 0x97}) {
		t.Errorf("Take: got %x", got)
	}
	if got := c.U16(); got != 0x7988 {
		t.Errorf("U16: got %x", got)
	}
	mustBe(t, c, false, false)
	if got := c.U8(); got != 0x6A {
		t.Errorf("last U8: got %x", got)
	}
	mustBe(t, c, false, true)
}

// Each byte alone shows that it has its place, and that no integer is negative.
func TestEachByteAlone(t *testing.T) {
	for i := range 4 {
		for _, x := range []byte{0x01, 0x7F, 0x80, 0xFF} {
			b := make([]byte, 4)
			b[i] = x
			want := uint32(x) << (8 * i)
			if got := bytes.At(b).U32(); got != want {
				t.Errorf("U32 of %x: got %x", b, got)
			}
			if got := bytes.At(b).U16(); got != int(want&0xFFFF) {
				t.Errorf("U16 of %x: got %x", b, got)
			}
			if got := bytes.At(b).U8(); got != int(want&0xFF) {
				t.Errorf("U8 of %x: got %x", b, got)
			}
		}
	}
}

// Every call, with every number of bytes left around what it needs.
func TestWhatIsLeft(t *testing.T) {
	for start := range 3 {
		for left := range 7 {
			for _, k := range takers {
				c := bytes.At(counting(start + left))
				c.Take(start)
				mustBe(t, c, false, left == 0)
				got := k.call(c)
				if left < k.need {
					if got != 0 {
						t.Fatalf("%s with %d bytes left: got %d", k.name, left, got)
					}
					mustGiveNothing(t, c)
					continue
				}
				mustBe(t, c, false, left == k.need)
				if rest := c.Take(left - k.need); !slices.Equal(rest, counting(start + left)[start+k.need:]) {
					t.Fatalf("%s with %d bytes left: %x follow", k.name, left, rest)
				}
				mustBe(t, c, false, true)
			}
		}
	}
}

func TestTakeEachLength(t *testing.T) {
	for n := range 20 {
		c := bytes.At(counting(19))
		if got := c.Take(n); !slices.Equal(got, counting(n)) {
			t.Errorf("Take(%d): got %x", n, got)
		}
		if got := c.Take(19 - n); !slices.Equal(got, counting(19)[n:]) {
			t.Errorf("Take(%d) of the rest: got %x", 19-n, got)
		}
		mustBe(t, c, false, true)
	}
}

func TestTakeOutside(t *testing.T) {
	for _, n := range []int{
		-1, -2, -3, -4, -256, math.MinInt32, -1 << 32, 3 - 1<<32, math.MinInt, math.MinInt + 3,
		4, 5, 256, math.MaxInt32, 1 << 32, 1<<32 + 2, math.MaxInt - 1, math.MaxInt,
	} {
		for start := range 4 {
			c := bytes.At(counting(3))
			c.Take(start)
			if got := c.Take(n); len(got) != 0 {
				t.Errorf("Take(%d) after %d bytes: got %x", n, start, got)
			}
			mustGiveNothing(t, c)
		}
	}
}

// The length of the bytes counts, not their capacity.
func TestTakeBeyondTheLength(t *testing.T) {
	for _, k := range takers {
		if k.need == 0 {
			continue
		}
		c := bytes.At(counting(10)[:k.need-1])
		if got := k.call(c); got != 0 {
			t.Errorf("%s: got %d", k.name, got)
		}
		mustGiveNothing(t, c)
	}
}

func TestNoBytes(t *testing.T) {
	for _, b := range [][]byte{nil, {}, counting(3)[:0], counting(3)[3:]} {
		c := bytes.At(b)
		mustBe(t, c, false, true)
		if got := c.Take(0); len(got) != 0 {
			t.Errorf("Take(0): got %x", got)
		}
		mustBe(t, c, false, true)
		if got := c.U8(); got != 0 {
			t.Errorf("U8: got %x", got)
		}
		mustGiveNothing(t, c)
	}
}

func TestNilCursor(t *testing.T) {
	var c *bytes.Cursor
	mustGiveNothing(t, c)
	for _, n := range []int{-1, 0, 1, math.MinInt, math.MaxInt} {
		if got := c.Take(n); len(got) != 0 {
			t.Errorf("Take(%d): got %x", n, got)
		}
	}
	mustBe(t, c, true, false)
}

// What one cursor takes, and that it fails, doesn't matter to another one at the
// same bytes.
func TestCursorsAreIndependent(t *testing.T) {
	b := counting(4)
	first, second := bytes.At(b), bytes.At(b)
	first.U16()
	first.U32()
	mustGiveNothing(t, first)
	mustBe(t, second, false, false)
	if got := second.U32(); got != 0x04030201 {
		t.Errorf("got %x", got)
	}
	mustBe(t, second, false, true)
}

func TestAtLeavesItsArgument(t *testing.T) {
	memory := counting(20)
	c := bytes.At(memory[4:10])
	for i, taken := range [][]byte{c.Take(2), c.Take(0), c.Take(3)} {
		for j := range taken {
			taken[j] = 0xEE
		}
		taken = append(taken, 0xEE, 0xEE, 0xEE)
		if !slices.Equal(memory, counting(20)) {
			t.Fatalf("Take %d: the bytes are now %x", i, memory)
		}
	}
	if got := c.U8(); got != 10 {
		t.Errorf("the last byte: got %d", got)
	}
}

func TestAtKeepsNoArgument(t *testing.T) {
	b := counting(4)
	c := bytes.At(b)
	first := c.Take(2)
	for i := range b {
		b[i] = 0xEE
	}
	if !slices.Equal(first, counting(2)) {
		t.Errorf("what was taken before is now %x", first)
	}
	if got := c.U16(); got != 0x0403 {
		t.Errorf("what was taken after: got %x", got)
	}
}

// Neither writing to what was taken nor appending to it changes anything else.
func TestTakenBytesAreTheCallers(t *testing.T) {
	c := bytes.At(counting(9))
	first := c.Take(3)
	longer := append(first, 0xEE, 0xEE, 0xEE)
	second := c.Take(3)
	if !slices.Equal(second, []byte{4, 5, 6}) {
		t.Fatalf("after appending to the first bytes, the next are %x", second)
	}
	third := append(second, 0xDD)
	second[0] = 0xCC
	if !slices.Equal(first, counting(3)) || !slices.Equal(longer, []byte{1, 2, 3, 0xEE, 0xEE, 0xEE}) {
		t.Errorf("the first bytes are now %x and %x", first, longer)
	}
	if got := c.Take(3); !slices.Equal(got, []byte{7, 8, 9}) || !slices.Equal(third[1:], []byte{5, 6, 0xDD}) {
		t.Errorf("the last bytes are %x, and those before %x", got, third)
	}
}

// model does what the chapter says, with a position in bytes that never change.
type model struct {
	b      []byte
	at     int
	failed bool
}

func (m *model) take(n int) []byte {
	if m.failed || n < 0 || m.at+n > len(m.b) {
		m.failed = true
		return nil
	}
	m.at += n
	return m.b[m.at-n : m.at]
}

func (m *model) integer(n int) uint32 {
	x, power := uint32(0), uint32(1)
	for _, b := range m.take(n) {
		x += uint32(b) * power
		power *= 256
	}
	return x
}

func TestRandomCalls(t *testing.T) {
	r := rand.New(rand.NewSource(6))
	for range 5000 {
		b := make([]byte, r.Intn(30))
		r.Read(b)
		c, m := bytes.At(b), &model{b: slices.Clone(b)}
		for range 12 {
			switch r.Intn(4) {
			case 0:
				if got, want := c.U8(), int(m.integer(1)); got != want {
					t.Fatalf("U8 of %x: got %x, want %x", b, got, want)
				}
			case 1:
				if got, want := c.U16(), int(m.integer(2)); got != want {
					t.Fatalf("U16 of %x: got %x, want %x", b, got, want)
				}
			case 2:
				if got, want := c.U32(), m.integer(4); got != want {
					t.Fatalf("U32 of %x: got %x, want %x", b, got, want)
				}
			case 3:
				n := r.Intn(9) - 1
				if got, want := c.Take(n), m.take(n); !slices.Equal(got, want) {
					t.Fatalf("Take(%d) of %x: got %x, want %x", n, b, got, want)
				}
			}
			mustBe(t, c, m.failed, !m.failed && m.at == len(b))
		}
	}
}

func TestP16(t *testing.T) {
	for _, k := range []struct {
		n    int
		want []byte
	}{
		{0, []byte{0, 0}},
		{1, []byte{1, 0}},
		{0x80, []byte{0x80, 0}},
		{0x0201, []byte{0x01, 0x02}},
		{0x7FFF, []byte{0xFF, 0x7F}},
		{0x8000, []byte{0x00, 0x80}},
		{0xFFFF, []byte{0xFF, 0xFF}},
		{0x10000, []byte{0, 0}},
		{0x12345678, []byte{0x78, 0x56}},
		{-1, []byte{0xFF, 0xFF}},
		{-2, []byte{0xFE, 0xFF}},
		{-0x8000, []byte{0x00, 0x80}},
		{-0x10000, []byte{0, 0}},
		{math.MaxInt, []byte{0xFF, 0xFF}},
		{math.MinInt, []byte{0, 0}},
		{math.MinInt + 0x0201, []byte{0x01, 0x02}},
	} {
		for _, before := range [][]byte{nil, {}, {0xAB}, counting(5)} {
			want := slices.Concat(before, k.want)
			if got := bytes.P16(before, k.n); !slices.Equal(got, want) {
				t.Errorf("P16(%x, %x): got %x", before, k.n, got)
			}
		}
	}
}

func TestP32(t *testing.T) {
	for _, k := range []struct {
		n    uint32
		want []byte
	}{
		{0, []byte{0, 0, 0, 0}},
		{1, []byte{1, 0, 0, 0}},
		{0x80, []byte{0x80, 0, 0, 0}},
		{0x100, []byte{0, 1, 0, 0}},
		{0x10000, []byte{0, 0, 1, 0}},
		{0x1000000, []byte{0, 0, 0, 1}},
		{0x04030201, []byte{1, 2, 3, 4}},
		{0x80000000, []byte{0, 0, 0, 0x80}},
		{0xFEDCBA98, []byte{0x98, 0xBA, 0xDC, 0xFE}},
		{greatest, []byte{0xFF, 0xFF, 0xFF, 0xFF}},
	} {
		for _, before := range [][]byte{nil, {}, {0xAB}, counting(5)} {
			want := slices.Concat(before, k.want)
			if got := bytes.P32(before, k.n); !slices.Equal(got, want) {
				t.Errorf("P32(%x, %x): got %x", before, k.n, got)
			}
		}
	}
}

// What is put can be read.
func TestPutAndTake(t *testing.T) {
	r := rand.New(rand.NewSource(7))
	for range 2000 {
		short, long := r.Intn(0x10000), r.Uint32()
		c := bytes.At(bytes.P32(bytes.P16(nil, short), long))
		if gotShort, gotLong := c.U16(), c.U32(); gotShort != short || gotLong != long {
			t.Fatalf("%x and %x: got %x and %x", short, long, gotShort, gotLong)
		}
		mustBe(t, c, false, true)
	}
}

var putters = map[string]func(b []byte) []byte{
	"P16": func(b []byte) []byte { return bytes.P16(b, 0xEEEE) },
	"P32": func(b []byte) []byte { return bytes.P32(b, 0xEEEEEEEE) },
}

// Neither the bytes nor the capacity behind them are modified, and what is
// returned shares no memory with them.
func TestPutLeavesItsArgument(t *testing.T) {
	for name, put := range putters {
		for n := range 21 {
			memory := counting(20)
			got := put(memory[:n])
			if !slices.Equal(memory, counting(20)) {
				t.Fatalf("%s behind %d bytes modified them: %x", name, n, memory)
			}
			for i := range got {
				got[i] = 0xDD
			}
			if !slices.Equal(memory, counting(20)) {
				t.Fatalf("%s behind %d bytes returned their memory", name, n)
			}
		}
	}
}

// Two continuations of the same bytes don't overwrite each other.
func TestPutTwiceBehindTheSame(t *testing.T) {
	start := bytes.P32(bytes.P16(bytes.P32(nil, 0x04030201), 0x0605), 0x0A090807)
	short, other := bytes.P16(start, 0x1111), bytes.P16(start, 0x2222)
	long, another := bytes.P32(start, 0x33333333), bytes.P32(start, 0x44444444)
	for i, k := range []struct{ got, end []byte }{
		{start, nil},
		{short, []byte{0x11, 0x11}},
		{other, []byte{0x22, 0x22}},
		{long, []byte{0x33, 0x33, 0x33, 0x33}},
		{another, []byte{0x44, 0x44, 0x44, 0x44}},
	} {
		if !slices.Equal(k.got, slices.Concat(counting(10), k.end)) {
			t.Errorf("continuation %d: got %x", i, k.got)
		}
	}
}

// eachTwoRanges calls check with pairs of ranges near 0, in the middle and at the
// end of the address space and beyond it, of sizes around their distances.
func eachTwoRanges(check func(a, n, b, m uint32)) {
	edges := []uint32{
		0, 1, 2, 3, 4, 5, 0xFFFF, 0x10000, 0x7FFFFFFF, 0x80000000, 0x80000001, 0x80001000, 0x80010000,
		greatest - 5, greatest - 4, greatest - 3, greatest - 2, greatest - 1, greatest,
	}
	for _, a := range edges {
		for _, n := range edges {
			for _, b := range edges {
				for _, m := range edges {
					check(a, n, b, m)
				}
			}
		}
	}
	r := rand.New(rand.NewSource(8))
	for range 100000 {
		a, n, b := r.Uint32(), r.Uint32()>>r.Intn(32), r.Uint32()
		check(a, n, b, r.Uint32()>>r.Intn(32))
		check(a, n, b, a-b+uint32(r.Intn(5)-2))   // ends near the first one's start
		check(a, n, b, a+n-b+uint32(r.Intn(5)-2)) // ends near the first one's end
		check(a, b-a+uint32(r.Intn(5)-2), b, n)
	}
}

func TestWithin(t *testing.T) {
	eachTwoRanges(func(a, n, b, m uint32) {
		want := a >= b && int64(a)+int64(n) <= int64(b)+int64(m)
		if got := bytes.Within(a, n, b, m); got != want {
			t.Fatalf("Within(%x, %x, %x, %x): got %t", a, n, b, m, got)
		}
	})
}

func TestApart(t *testing.T) {
	eachTwoRanges(func(a, n, b, m uint32) {
		// The bytes in common go from the later start to the earlier end.
		start := max(int64(a), int64(b))
		end := min(int64(a)+int64(n), int64(b)+int64(m))
		if got := bytes.Apart(a, n, b, m); got != (start >= end) {
			t.Fatalf("Apart(%x, %x, %x, %x): got %t", a, n, b, m, got)
		}
	})
}

// countCommon counts, byte by byte, how many bytes of the first range are in the
// second one.
func countCommon(a, n, b, m uint32) uint32 {
	var count uint32
	for i := range n {
		for j := range m {
			if uint64(a)+uint64(i) == uint64(b)+uint64(j) {
				count++
			}
		}
	}
	return count
}

func TestRangesByteByByte(t *testing.T) {
	for _, first := range []uint32{0, 0x7FFFFFF8, greatest - 7} {
		for code := range uint32(8 * 8 * 8 * 8) {
			a, n, b, m := first+code&7, code>>3&7, first+code>>6&7, code>>9&7
			common := countCommon(a, n, b, m)
			if got := bytes.Apart(a, n, b, m); got != (common == 0) {
				t.Fatalf("Apart(%x, %x, %x, %x): got %t", a, n, b, m, got)
			}
			if got := bytes.Within(a, n, b, m); n > 0 && got != (common == n) {
				t.Fatalf("Within(%x, %x, %x, %x): got %t", a, n, b, m, got)
			}
		}
	}
}

func TestKnownRanges(t *testing.T) {
	for _, k := range []struct {
		a, n, b, m    uint32
		within, apart bool
	}{
		{10, 5, 10, 5, true, false},
		{11, 3, 10, 5, true, false},
		{10, 6, 10, 5, false, false},
		{9, 5, 10, 5, false, false},
		{9, 7, 10, 5, false, false},
		{5, 5, 10, 5, false, true}, // one ends where the other begins
		{15, 5, 10, 5, false, true},
		{14, 1, 10, 5, true, false},
		{15, 1, 10, 5, false, true},
		{0x80001000, 0x1000, 0x80000000, 0x10000, true, false},
		{0x80000000, 0x10001, 0x80000000, 0x10000, false, false},

		// Empty ranges have no byte, but an address.
		{12, 0, 10, 5, true, true},
		{10, 0, 10, 5, true, true},
		{15, 0, 10, 5, true, true},
		{16, 0, 10, 5, false, true},
		{9, 0, 10, 5, false, true},
		{10, 5, 12, 0, false, true},
		{10, 0, 10, 0, true, true},
		{11, 0, 10, 0, false, true},
		{0, 0, 0, 0, true, true},
		{greatest, 0, greatest, 0, true, true},
		{0, 0, greatest, greatest, false, true},

		// The sums don't wrap around.
		{greatest, 1, greatest, 1, true, false},
		{greatest, 2, greatest, 1, false, false},
		{greatest, 1, greatest, greatest, true, false},
		{0x80001000, 0xFFFFFFFF, 0x80000000, 0x10000, false, false},
		{0x80001000, 0x80000000, 0x80000000, 0x10000, false, false},
		{0x80001000, 4, 0x80000000, 0x80000000, true, false},
		{greatest, 2, 0, 1, false, true},
		{0, 1, greatest, 2, false, true},
		{greatest, greatest, 0, greatest, false, true},
		{greatest - 1, greatest, greatest, 1, false, false},
		{0, greatest, 0, greatest, true, false},
		{1, greatest, 0, greatest, false, false},
		{1, greatest, 1, greatest, true, false},
	} {
		if got := bytes.Within(k.a, k.n, k.b, k.m); got != k.within {
			t.Errorf("Within(%x, %x, %x, %x): got %t", k.a, k.n, k.b, k.m, got)
		}
		if got := bytes.Apart(k.a, k.n, k.b, k.m); got != k.apart {
			t.Errorf("Apart(%x, %x, %x, %x): got %t", k.a, k.n, k.b, k.m, got)
		}
		if got := bytes.Apart(k.b, k.m, k.a, k.n); got != k.apart {
			t.Errorf("Apart(%x, %x, %x, %x): got %t", k.b, k.m, k.a, k.n, got)
		}
	}
}
