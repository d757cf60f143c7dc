package place

import (
	"portico/api"
	"portico/bytes"
)

// A Memory holds the bytes of RAM. A nil one has none.
type Memory struct {
	ram [api.RamSize]byte
}

// NewMemory returns RAM filled with zeros.
func NewMemory() *Memory {
	return &Memory{}
}

// Has reports whether the n bytes from at on lie in RAM.
func (m *Memory) Has(at, n uint32) bool {
	return m != nil && bytes.Within(at, n, api.RamBase, api.RamSize)
}

// Get returns the n bytes from at on, or ErrBus if they don't lie in RAM.
func (m *Memory) Get(at, n uint32) ([]byte, api.Errno) {
	if !m.Has(at, n) {
		return nil, api.ErrBus
	}
	return append([]byte(nil), m.ram[at-api.RamBase:][:n]...), api.OK
}

// Put writes b at the address at, or returns ErrBus if it doesn't lie in RAM.
func (m *Memory) Put(at uint32, b []byte) api.Errno {
	// The length is compared first, because 32 bits may not hold it.
	if len(b) > api.RamSize || !m.Has(at, uint32(len(b))) {
		return api.ErrBus
	}
	copy(m.ram[at-api.RamBase:], b)
	return api.OK
}

// Load returns the little-endian integer of the n bytes at the address at, or
// ErrBus if n isn't a width or they don't lie in RAM.
func (m *Memory) Load(at uint32, n int) (uint32, api.Errno) {
	if !isWidth(n) || !m.Has(at, uint32(n)) {
		return 0, api.ErrBus
	}
	c := bytes.At(m.ram[at-api.RamBase:][:n]) // which copies them
	switch n {
	case 1:
		return uint32(c.U8()), api.OK
	case 2:
		return uint32(c.U16()), api.OK
	default:
		return c.U32(), api.OK
	}
}

// Store writes the lowest n bytes of x at the address at, the least significant
// first, or returns ErrBus if n isn't a width or they don't lie in RAM.
func (m *Memory) Store(at uint32, n int, x uint32) api.Errno {
	if !isWidth(n) {
		return api.ErrBus
	}
	return m.Put(at, bytes.P32(nil, x)[:n])
}

// Copy returns an independent memory with the same contents.
func (m *Memory) Copy() *Memory {
	if m == nil {
		return nil
	}
	c := *m
	return &c
}

// isWidth reports whether integers of n bytes can be loaded and stored.
func isWidth(n int) bool {
	return n == 1 || n == 2 || n == 4
}
