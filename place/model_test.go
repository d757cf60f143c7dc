package place_test

import (
	"bytes"
	"math"
	"math/rand"
	"testing"

	"portico/api"
	"portico/place"
)

const (
	base     = 0x80000000
	size     = 0x10000
	end      = base + size // the address just after RAM
	greatest = math.MaxUint32
)

// A model is RAM byte by byte, with addresses that don't wrap around.
type model struct {
	b []byte
}

// has looks at each byte, or at the address if there is none. Beyond RAM's size
// it needn't go on.
func (m *model) has(at, n uint32) bool {
	if n == 0 {
		return at >= base && at <= end
	}
	for i := range min(uint64(n), size+1) {
		if a := uint64(at) + i; a < base || a >= end {
			return false
		}
	}
	return true
}

func (m *model) get(at, n uint32) ([]byte, api.Errno) {
	if !m.has(at, n) {
		return nil, api.ErrBus
	}
	var b []byte
	for i := range n {
		b = append(b, m.b[at+i-base])
	}
	return b, api.OK
}

func (m *model) put(at uint32, b []byte) api.Errno {
	if !m.has(at, uint32(len(b))) {
		return api.ErrBus
	}
	for i, x := range b {
		m.b[int(at-base)+i] = x
	}
	return api.OK
}

func (m *model) load(at uint32, n int) (uint32, api.Errno) {
	if n != 1 && n != 2 && n != 4 {
		return 0, api.ErrBus
	}
	b, e := m.get(at, uint32(n))
	x, power := uint32(0), uint32(1)
	for _, y := range b {
		x += uint32(y) * power
		power *= 256
	}
	return x, e
}

func (m *model) store(at uint32, n int, x uint32) api.Errno {
	if n != 1 && n != 2 && n != 4 {
		return api.ErrBus
	}
	var b []byte
	for range n {
		b = append(b, byte(x%256))
		x /= 256
	}
	return m.put(at, b)
}

// filled returns a memory without a zero byte, and its model.
func filled(t *testing.T) (*place.Memory, *model) {
	t.Helper()
	r := rand.New(rand.NewSource(10))
	b := make([]byte, size)
	for i := range b {
		b[i] = byte(1 + r.Intn(255))
	}
	m := place.NewMemory()
	if e := m.Put(base, b); e != api.OK {
		t.Fatalf("all of RAM can't be put: %d", e)
	}
	return m, &model{b: bytes.Clone(b)}
}

// mustHold checks every byte of a memory.
func mustHold(t *testing.T, m *place.Memory, want []byte) {
	t.Helper()
	got, e := m.Get(base, size)
	if e != api.OK || len(got) != size {
		t.Fatalf("all of RAM: got %d bytes, error %d", len(got), e)
	}
	if bytes.Equal(got, want) {
		return
	}
	for i := range got {
		if got[i] != want[i] {
			t.Fatalf("the byte at %x is %x, want %x", base+i, got[i], want[i])
		}
	}
}

// addresses returns those around each place where something ends.
func addresses() []uint32 {
	var l []uint32
	for _, near := range []uint32{0, 0x10000, base - size, base, base + api.Reserved, base + size/2, end, end + size, 0xFFFF0000} {
		for i := near - 6; i != near+7; i++ {
			l = append(l, i)
		}
	}
	return l
}

// sizes returns those around each border for the bytes from an address on, and
// those with which the sum wraps around into RAM.
func sizes(at uint32) []uint32 {
	l := []uint32{0, 1, 2, 3, 4, 5, 6, 7, 8, 9, 255, 256, 257, 0x8000,
		base - 1, base, base + 1, end, greatest - 1, greatest}
	for _, near := range []uint32{size, base - at, end - at, -at} {
		l = append(l, near-2, near-1, near, near+1, near+2)
	}
	return append(l, base+0x100-at, size/2)
}

// wrongWidths are what integers of 1, 2 and 4 bytes are not, also if only their
// lowest bits are looked at.
var wrongWidths = []int{
	0, 3, 5, 6, 7, 8, 9, 12, 16, 32, 255, 256, 257, 258, 260, 0x10001, 0x10004,
	-1, -2, -3, -4, -8, -252, -254, -255, math.MaxInt32, math.MinInt32,
	1<<32 + 1, 1<<32 + 2, 1<<32 + 4, 4 - 1<<32, 2 - 1<<32, 1 - 1<<32,
	math.MaxInt, math.MaxInt - 1, math.MinInt, math.MinInt + 1, math.MinInt + 2, math.MinInt + 4,
}
