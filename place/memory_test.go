package place_test

import (
	"bytes"
	"math/rand"
	"slices"
	"testing"

	"portico/api"
	"portico/place"
)

func TestExample(t *testing.T) {
	m := place.NewMemory()
	if e := m.Store(0x80000000, 4, 0x01020304); e != api.OK {
		t.Errorf("Store: error %d", e)
	}
	if x, e := m.Load(0x80000001, 2); x != 0x0203 || e != api.OK {
		t.Errorf("Load: got %x, error %d", x, e)
	}
	if b, e := m.Get(0x80000000, 5); !bytes.Equal(b, []byte{4, 3, 2, 1, 0}) || e != api.OK {
		t.Errorf("Get: got %x, error %d", b, e)
	}
}

func TestNewMemoryIsZero(t *testing.T) {
	first := place.NewMemory()
	mustHold(t, first, make([]byte, size))
	if e := first.Store(base, 1, 0xAB); e != api.OK {
		t.Fatalf("Store: error %d", e)
	}
	mustHold(t, place.NewMemory(), make([]byte, size))
}

func TestHas(t *testing.T) {
	m, slow := filled(t)
	for _, at := range addresses() {
		for _, n := range sizes(at) {
			if got, want := m.Has(at, n), slow.has(at, n); got != want {
				t.Errorf("Has(%x, %x): got %t", at, n, got)
			}
		}
	}
	for _, k := range []struct {
		at, n uint32
		want  bool
	}{
		{base, 0, true}, {base, size, true}, {base, size + 1, false}, {base - 1, 1, false}, {base - 1, 0, false},
		{end - 1, 1, true}, {end - 1, 2, false}, {end, 0, true}, {end, 1, false}, {end + 1, 0, false},
		{0, 0, false}, {greatest, 0, false}, {base + 1, greatest, false}, {base, 1 << 31, false}, {0, end, false},
	} {
		if got := m.Has(k.at, k.n); got != k.want {
			t.Errorf("Has(%x, %x): got %t", k.at, k.n, got)
		}
	}
	mustHold(t, m, slow.b)
}

func TestGet(t *testing.T) {
	m, slow := filled(t)
	for _, at := range addresses() {
		for _, n := range sizes(at) {
			got, e := m.Get(at, n)
			want, wantError := slow.get(at, n)
			if !bytes.Equal(got, want) || e != wantError {
				t.Fatalf("Get(%x, %x): got %d bytes, error %d; want %d bytes, error %d", at, n, len(got), e, len(want), wantError)
			}
		}
	}
	mustHold(t, m, slow.b)
}

func TestGetReturnsNewMemory(t *testing.T) {
	m, slow := filled(t)
	for _, n := range []uint32{0, 1, 4, 100, size} {
		first, _ := m.Get(base, n)
		second, _ := m.Get(base, n)
		for i := range first {
			first[i] = 0
		}
		first = first[:cap(first)]
		for i := range first {
			first[i] = 0
		}
		mustHold(t, m, slow.b)
		if !bytes.Equal(second, slow.b[:n]) {
			t.Errorf("two calls of Get(%x, %x) returned the same memory", base, n)
		}
	}
	before, _ := m.Get(base+8, 4)
	m.Store(base+8, 4, 0)
	if !bytes.Equal(before, slow.b[8:12]) {
		t.Errorf("what was got before a Store is now %x", before)
	}
}

func TestPut(t *testing.T) {
	m, slow := filled(t)
	r := rand.New(rand.NewSource(1))
	for _, at := range addresses() {
		lengths := []uint32{0, 1, 2, 3, 5, 8, 13, size - 1, size, size + 1, 2 * size}
		for _, n := range []uint32{base - at, end - at, -at} {
			if n-2 < 3*size {
				lengths = append(lengths, n-2, n-1, n, n+1, n+2)
			}
		}
		for _, n := range lengths {
			b := make([]byte, n)
			r.Read(b)
			if got, want := m.Put(at, b), slow.put(at, b); got != want {
				t.Fatalf("Put(%x) of %x bytes: error %d, want %d", at, n, got, want)
			}
			mustHold(t, m, slow.b)
		}
	}
	if e := m.Put(end, nil); e != api.OK {
		t.Errorf("Put of no bytes just after RAM: error %d", e)
	}
	if e := m.Put(end+1, nil); e != api.ErrBus {
		t.Errorf("Put of no bytes beyond: error %d", e)
	}
	mustHold(t, m, slow.b)
}

// Neither the bytes nor the capacity behind them are modified, and what becomes of
// them later doesn't matter.
func TestPutLeavesAndKeepsNoArgument(t *testing.T) {
	m, slow := filled(t)
	argument := []byte{1, 2, 3, 4, 5, 6, 7, 8}
	for _, at := range []uint32{base, base + 0x1234, end - 4, end - 3, base - 1} {
		if got, want := m.Put(at, argument[:4]), slow.put(at, argument[:4]); got != want {
			t.Fatalf("Put(%x): error %d, want %d", at, got, want)
		}
		if !bytes.Equal(argument, []byte{1, 2, 3, 4, 5, 6, 7, 8}) {
			t.Fatalf("Put(%x) changed its argument: %x", at, argument)
		}
	}
	for i := range argument {
		argument[i] = 0xEE
	}
	mustHold(t, m, slow.b)
	m.Put(base, argument)
	m.Store(base, 4, 0)
	if argument[0] != 0xEE {
		t.Error("a Store changed what was put before")
	}
}

func TestLoad(t *testing.T) {
	m, slow := filled(t)
	for _, at := range addresses() {
		for _, n := range append([]int{1, 2, 4}, wrongWidths...) {
			got, e := m.Load(at, n)
			want, wantError := slow.load(at, n)
			if got != want || e != wantError {
				t.Errorf("Load(%x, %d): got %x, error %d; want %x, error %d", at, n, got, e, want, wantError)
			}
		}
	}
	mustHold(t, m, slow.b)
}

func TestStore(t *testing.T) {
	m, slow := filled(t)
	for i, at := range addresses() {
		for j, n := range append([]int{1, 2, 4}, wrongWidths...) {
			x := 0xFEDCBA98 - uint32(i)*0x01010101 + uint32(j)
			if got, want := m.Store(at, n, x), slow.store(at, n, x); got != want {
				t.Errorf("Store(%x, %d, %x): error %d, want %d", at, n, x, got, want)
			}
		}
		mustHold(t, m, slow.b)
	}
}

// Each width, as literals: the lowest byte comes first, and the highest bytes of
// the integer don't matter.
func TestWidths(t *testing.T) {
	for _, k := range []struct {
		n    int
		want []byte
		back uint32
	}{
		{1, []byte{0x98, 9, 9, 9, 9}, 0x98},
		{2, []byte{0x98, 0xBA, 9, 9, 9}, 0xBA98},
		{4, []byte{0x98, 0xBA, 0xDC, 0xFE, 9}, 0xFEDCBA98},
	} {
		for at := uint32(base + 0x2000); at < base+0x2004; at++ {
			m := place.NewMemory()
			m.Put(at, []byte{9, 9, 9, 9, 9})
			if e := m.Store(at, k.n, 0xFEDCBA98); e != api.OK {
				t.Errorf("Store of %d bytes at %x: error %d", k.n, at, e)
			}
			if got, _ := m.Get(at, 5); !bytes.Equal(got, k.want) {
				t.Errorf("Store of %d bytes at %x: got %x", k.n, at, got)
			}
			if got, e := m.Load(at, k.n); got != k.back || e != api.OK {
				t.Errorf("Load of %d bytes at %x: got %x, error %d", k.n, at, got, e)
			}
		}
	}
}

func TestEveryAddressAlone(t *testing.T) {
	m := place.NewMemory()
	want := make([]byte, size)
	for i := range size {
		x := byte(i>>8) ^ byte(i) ^ 0x5A
		if e := m.Store(base+uint32(i), 1, uint32(x)|0xABCDEF00); e != api.OK {
			t.Fatalf("Store at %x: error %d", base+i, e)
		}
		want[i] = x
	}
	mustHold(t, m, want)
	for i := range size {
		if got, e := m.Load(base+uint32(i), 1); got != uint32(want[i]) || e != api.OK {
			t.Fatalf("Load at %x: got %x, error %d", base+i, got, e)
		}
	}
}

func TestCopyIsIndependent(t *testing.T) {
	m, slow := filled(t)
	c := m.Copy()
	mustHold(t, c, slow.b)
	other := &model{b: slices.Clone(slow.b)}
	for i, at := range []uint32{base, base + 1, base + 0x7FFE, end - 4} {
		m.Store(at, 4, uint32(i)*0x01010101)
		slow.store(at, 4, uint32(i)*0x01010101)
		mustHold(t, c, other.b)
		c.Put(at, []byte{7, 8, 9})
		other.put(at, []byte{7, 8, 9})
		mustHold(t, m, slow.b)
	}
	mustHold(t, c, other.b)
	again := c.Copy()
	c.Store(base, 1, 0xEE)
	mustHold(t, again, other.b)
	mustHold(t, m, slow.b)
	mustHold(t, place.NewMemory().Copy(), make([]byte, size))
}

func TestNilMemory(t *testing.T) {
	var m *place.Memory
	for _, at := range addresses() {
		for _, n := range sizes(at) {
			if m.Has(at, n) {
				t.Fatalf("Has(%x, %x) is true", at, n)
			}
			if b, e := m.Get(at, n); b != nil || e != api.ErrBus {
				t.Fatalf("Get(%x, %x): got %x, error %d", at, n, b, e)
			}
		}
		for _, n := range append([]int{1, 2, 4}, wrongWidths...) {
			if x, e := m.Load(at, n); x != 0 || e != api.ErrBus {
				t.Fatalf("Load(%x, %d): got %x, error %d", at, n, x, e)
			}
			if e := m.Store(at, n, 7); e != api.ErrBus {
				t.Fatalf("Store(%x, %d): error %d", at, n, e)
			}
		}
		for _, b := range [][]byte{nil, {}, {1}, make([]byte, size), make([]byte, size+1)} {
			if e := m.Put(at, b); e != api.ErrBus {
				t.Fatalf("Put(%x) of %d bytes: error %d", at, len(b), e)
			}
		}
	}
	if m.Copy() != nil {
		t.Error("Copy isn't nil")
	}
}

// randomAddress returns one in RAM, near one of its ends, or anywhere.
func randomAddress(r *rand.Rand) uint32 {
	switch r.Intn(8) {
	case 0:
		return r.Uint32()
	case 1:
		return base + uint32(r.Intn(16)) - 8
	case 2:
		return end + uint32(r.Intn(16)) - 8
	}
	return base + uint32(r.Intn(size))
}

func TestRandomCalls(t *testing.T) {
	r := rand.New(rand.NewSource(2))
	m, slow := filled(t)
	for range 20000 {
		at := randomAddress(r)
		switch r.Intn(5) {
		case 0:
			n := uint32(r.Intn(40))
			got, e := m.Get(at, n)
			if want, wantError := slow.get(at, n); !bytes.Equal(got, want) || e != wantError {
				t.Fatalf("Get(%x, %d): got %x, error %d; want %x, error %d", at, n, got, e, want, wantError)
			}
		case 1:
			b := make([]byte, r.Intn(40))
			r.Read(b)
			if got, want := m.Put(at, b), slow.put(at, b); got != want {
				t.Fatalf("Put(%x, %x): error %d, want %d", at, b, got, want)
			}
		case 2:
			n := r.Intn(6)
			got, e := m.Load(at, n)
			if want, wantError := slow.load(at, n); got != want || e != wantError {
				t.Fatalf("Load(%x, %d): got %x, error %d; want %x, error %d", at, n, got, e, want, wantError)
			}
		case 3:
			n, x := r.Intn(6), r.Uint32()
			if got, want := m.Store(at, n, x), slow.store(at, n, x); got != want {
				t.Fatalf("Store(%x, %d, %x): error %d, want %d", at, n, x, got, want)
			}
		case 4:
			m = m.Copy()
		}
		mustHold(t, m, slow.b)
	}
}
