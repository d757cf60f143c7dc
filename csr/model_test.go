package csr_test

import (
	"slices"
	"testing"

	"portico/api"
	"portico/csr"
)

// A model keeps every register as the chapter's table has it, by its number; a
// register that isn't in plain or in counters doesn't exist.
type model struct {
	mode     int
	plain    map[uint32]uint32
	counters map[uint32]uint64 // by the number of the lower half
	configs  [16]byte
	addrs    [16]uint32
}

// The numbers stand here once more, so that a wrong constant of the package is
// noticed.
var plainNumbers = []uint32{0x300, 0x301, 0x304, 0x305, 0x340, 0x341, 0x342, 0x343, 0x344, 0xF11, 0xF12, 0xF13, 0xF14}

func newModel() *model {
	m := &model{mode: 3, plain: map[uint32]uint32{}, counters: map[uint32]uint64{0xB00: 0, 0xB02: 0}}
	for _, n := range plainNumbers {
		m.plain[n] = 0
	}
	m.plain[0x301] = 0x40101100
	return m
}

func (m *model) read(n uint32) (uint32, bool) {
	if x, ok := m.plain[n]; ok {
		return x, true
	}
	if c, ok := m.counters[n]; ok {
		return uint32(c % (1 << 32)), true
	}
	if c, ok := m.counters[n-0x80]; ok {
		return uint32(c / (1 << 32)), true
	}
	if n >= 0x3B0 && n <= 0x3BF {
		return m.addrs[n-0x3B0], true
	}
	if n >= 0x3A0 && n <= 0x3A3 {
		b := m.configs[4*(n-0x3A0):][:4]
		return uint32(b[0]) + uint32(b[1])*0x100 + uint32(b[2])*0x10000 + uint32(b[3])*0x1000000, true
	}
	return 0, false
}

func (m *model) write(n, x uint32) bool {
	if _, ok := m.read(n); !ok || n >= 0xC00 {
		return false
	}
	switch {
	case n == 0x301 || n == 0x344:
	case n == 0x300:
		x = keep(x, 3, 7, 11, 12)
		if x>>11 != 3 {
			x = keep(x, 3, 7)
		}
		m.plain[n] = x
	case n == 0x304:
		m.plain[n] = keep(x, 7)
	case n == 0x305 || n == 0x341:
		m.plain[n] = x - x%4
	case n >= 0x3B0 && n <= 0x3BF:
		m.writeAddr(int(n-0x3B0), x)
	case n >= 0x3A0 && n <= 0x3A3:
		for k := range 4 {
			m.writeConfig(4*int(n-0x3A0)+k, byte(x>>(8*k)))
		}
	case n == 0xB00 || n == 0xB02:
		m.counters[n] = m.counters[n]/(1<<32)*(1<<32) + uint64(x)
	case n == 0xB80 || n == 0xB82:
		m.counters[n-0x80] = m.counters[n-0x80]%(1<<32) + uint64(x)*(1<<32)
	default:
		m.plain[n] = x
	}
	return true
}

func (m *model) writeConfig(i int, b byte) {
	if m.configs[i] >= 0x80 {
		return
	}
	x := keep(uint32(b), 0, 1, 2, 3, 4, 7)
	if x%4 == 2 {
		x = keep(x, 0, 2, 3, 4, 7)
	}
	m.configs[i] = byte(x)
}

func (m *model) writeAddr(i int, x uint32) {
	if m.configs[i] >= 0x80 {
		return
	}
	if i < 15 && m.configs[i+1] >= 0x80 && m.entries()[i+1].Way == 1 {
		return
	}
	m.addrs[i] = x
}

// keep returns only some bits of x.
func keep(x uint32, places ...int) uint32 {
	y := uint32(0)
	for _, p := range places {
		if x>>p%2 == 1 {
			y += 1 << p
		}
	}
	return y
}

func (m *model) may(n uint32) bool {
	return m.mode == 3 || n/0x100%4 == 0
}

func (m *model) timer(on bool) {
	m.plain[0x344] = 0
	if on {
		m.plain[0x344] = 0x80
	}
}

func (m *model) due() bool {
	return m.plain[0x304] == 0x80 && m.plain[0x344] == 0x80 && (m.mode == 0 || keep(m.plain[0x300], 3) != 0)
}

func (m *model) trap(pc, cause, tval uint32) uint32 {
	m.plain[0x341], m.plain[0x342], m.plain[0x343] = pc/4*4, cause, tval
	before := keep(m.plain[0x300], 3)
	m.plain[0x300] = before*16 + uint32(m.mode)*0x800
	m.mode = 3
	return m.plain[0x305]
}

func (m *model) back() uint32 {
	x := m.plain[0x300]
	m.mode = int(x / 0x800)
	m.plain[0x300] = 0x80 + keep(x, 7)/16
	return m.plain[0x341]
}

func (m *model) entries() []api.Entry {
	var l []api.Entry
	for i, b := range m.configs {
		l = append(l, api.Entry{Way: int(b / 8 % 4), Rights: int(b % 8), Addr: m.addrs[i]})
	}
	return l
}

func (m *model) protect(l []api.Entry) api.Errno {
	if len(l) > 16 {
		return 1
	}
	for i := range 16 {
		m.configs[i], m.addrs[i] = 0, 0
		if i < len(l) {
			m.configs[i], m.addrs[i] = byte(keep(uint32(l[i].Rights), 0, 1, 2)+keep(uint32(l[i].Way), 0, 1)*8), l[i].Addr
		}
	}
	return 0
}

// span is the bytes that entry i matches; the end isn't greater than the start
// if there are none.
func (m *model) span(i int) (uint64, uint64) {
	own := uint64(m.addrs[i]) * 4
	switch m.configs[i] / 8 % 4 {
	case 1:
		if i == 0 {
			return 0, own
		}
		return uint64(m.addrs[i-1]) * 4, own
	case 2:
		return own, own + 4
	case 3:
		size, word := uint64(8), m.addrs[i]
		for p := 0; p < 32 && word>>p%2 == 1; p++ {
			own -= 4 << p
			size *= 2
		}
		return own, own + size
	}
	return 0, 0
}

// common is how many of n bytes from at on entry i matches.
func (m *model) common(i int, at uint32, n int) uint64 {
	start, end := m.span(i)
	from, to := uint64(at), uint64(at)+uint64(n)
	if from < start {
		from = start
	}
	if to > end {
		to = end
	}
	if from >= to {
		return 0
	}
	return to - from
}

func (m *model) may1(at uint32, n, right int) bool {
	for i := range 16 {
		matched := m.common(i, at, n)
		if matched == 0 {
			continue
		}
		if matched != uint64(n) {
			return false
		}
		return m.mode == 3 && m.configs[i] < 0x80 || hasAll(int(m.configs[i]%8), right)
	}
	return m.mode == 3
}

func hasAll(has, wanted int) bool {
	for p := range 64 {
		if wanted>>p&1 == 1 && has>>p&1 == 0 {
			return false
		}
	}
	return true
}

func (m *model) tick(done bool) {
	m.counters[0xB00]++
	if done {
		m.counters[0xB02]++
	}
}

// numbers returns the numbers of all registers, and of some others around them.
func numbers() []uint32 {
	var l []uint32
	for n := range uint32(0x1100) {
		l = append(l, n)
	}
	for _, n := range plainNumbers {
		l = append(l, n+0x1000, n+0x10000, n+0x80000000, 0-n)
	}
	return append(l, 0x13A0, 0x13B0, 0x800003A0, 0xFFFFFFFF, 0x80000000, 0x7FFFFFFF, 0xFFFFF000)
}

var allNumbers = numbers()

// same holds the mode, all registers and the entries against the model's.
func same(t *testing.T, f *csr.File, m *model) {
	t.Helper()
	if f.Mode != m.mode {
		t.Fatalf("mode %d, want %d", f.Mode, m.mode)
	}
	for _, n := range allNumbers {
		got, ok := f.Read(n)
		if want, exists := m.read(n); got != want || ok != exists {
			t.Fatalf("register %X: got %X, %v, want %X, %v", n, got, ok, want, exists)
		}
	}
	if got := f.Entries(); !slices.Equal(got, m.entries()) {
		t.Fatalf("entries %v, want %v", got, m.entries())
	}
	if got := f.Due(); got != m.due() {
		t.Fatalf("due: got %v", got)
	}
}
