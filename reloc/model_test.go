package reloc_test

import (
	"bytes"
	"math/rand"
	"testing"

	"portico/api"
	"portico/place"
	"portico/reloc"
)

const (
	base = 0x80000000
	size = 0x10000
	end  = base + size // the address just after RAM
	code = base + 0x2000
	bias = base + 0x1000
)

// types are all that the chapter lists.
var types = []int{1, 3, 16, 17, 18, 19, 23, 24, 25, 26, 27, 28}

// A format lists where the bits of an immediate stand in a word.
type format []struct{ imm, word int }

// consecutive returns count bits from imm on, which stand from word on.
func consecutive(imm, word, count int) format {
	var f format
	for i := range count {
		f = append(f, struct{ imm, word int }{imm + i, word + i})
	}
	return f
}

func joined(parts ...format) format {
	var f format
	for _, p := range parts {
		f = append(f, p...)
	}
	return f
}

var (
	formatI = consecutive(0, 20, 12)
	formatS = joined(consecutive(0, 7, 5), consecutive(5, 25, 7))
	formatB = joined(consecutive(1, 8, 4), consecutive(5, 25, 6), consecutive(11, 7, 1), consecutive(12, 31, 1))
	formatU = consecutive(12, 12, 20)
	formatJ = joined(consecutive(1, 21, 10), consecutive(11, 20, 1), consecutive(12, 12, 8), consecutive(20, 31, 1))
)

// wrapped returns x modulo 2^32.
func wrapped(x int64) int64 {
	const m = 1 << 32
	return (x%m + m) % m
}

// upper returns the multiple of 4096 to which one adds from -2048 to 2047 to get v.
func upper(v int64) int64 {
	low := v % 4096
	if low >= 2048 {
		low -= 4096
	}
	return wrapped(v - low)
}

// A model applies relocations to RAM byte by byte and bit by bit.
type model struct {
	ram   []byte
	file  api.File
	bias  int64
	spans []place.Span
}

func (m *model) s(r api.Rela) int64 {
	if r.Sym < 1 || r.Sym > len(m.file.Symbols)-1 {
		return 0
	}
	return wrapped(int64(m.file.Symbols[r.Sym]) + m.bias)
}

func (m *model) p(r api.Rela) int64 {
	return wrapped(m.bias + int64(r.At))
}

// spanHolds looks for a span that has each byte.
func (m *model) spanHolds(at, n int64) bool {
	for _, s := range m.spans {
		held := true
		for i := at; i < at+n; i++ {
			held = held && i >= int64(s.Start) && i < int64(s.Start)+int64(s.Size)
		}
		if held {
			return true
		}
	}
	return false
}

// valid goes by the list of the chapter.
func (m *model) valid(r api.Rela) bool {
	at := m.p(r)
	switch r.Type {
	case 1:
		return m.spanHolds(at, 4)
	case 3:
		return m.spanHolds(at, 4) && r.Sym == 0
	case 16, 17, 23, 24, 25, 26, 27, 28:
		return m.spanHolds(at, 4) && at%4 == 0
	case 18, 19:
		return m.spanHolds(at, 8) && at%4 == 0
	}
	return false
}

// v returns the value and the errors that belong to it.
func (m *model) v(r api.Rela) (int64, api.Errno) {
	a := int64(r.Add)
	switch r.Type {
	case 3:
		return wrapped(m.bias + a), api.OK
	case 1, 26, 27, 28:
		return wrapped(m.s(r) + a), api.OK
	case 24, 25:
		for _, other := range m.file.Relas {
			if a == 0 && other.Type == 23 && m.p(other) == m.s(r) {
				return wrapped(m.s(other) + int64(other.Add) - m.p(other)), api.OK
			}
		}
		return 0, api.ErrRel
	}
	v := wrapped(m.s(r) + a - m.p(r))
	least := map[int]int64{16: -4096, 17: -1048576}[r.Type]
	signed := v
	if v >= 1<<31 {
		signed -= 1 << 32
	}
	if least != 0 && (signed%2 != 0 || signed < least || signed > -least-2) {
		return 0, api.ErrRange
	}
	return v, api.OK
}

// setWord replaces the four bytes at an address.
func (m *model) setWord(at, v int64) {
	for i := range int64(4) {
		m.ram[at-base+i] = byte(v >> (8 * i))
	}
}

// setImmediate replaces the bits of an immediate in the word at an address.
func (m *model) setImmediate(at int64, f format, v int64) {
	for _, bit := range f {
		i := at - base + int64(bit.word/8)
		m.ram[i] &^= 1 << (bit.word % 8)
		m.ram[i] |= byte(v>>bit.imm&1) << (bit.word % 8)
	}
}

func (m *model) apply(r api.Rela) api.Errno {
	if !m.valid(r) {
		return api.ErrRel
	}
	at := m.p(r)
	if at < base || at+4 > end {
		return api.ErrBus
	}
	v, e := m.v(r)
	if e != api.OK {
		return e
	}
	switch r.Type {
	case 1, 3:
		m.setWord(at, v)
	case 16:
		m.setImmediate(at, formatB, v)
	case 17:
		m.setImmediate(at, formatJ, v)
	case 18, 19:
		m.setImmediate(at, formatU, upper(v))
		m.setImmediate(at+4, formatI, v)
	case 23, 26:
		m.setImmediate(at, formatU, upper(v))
	case 24, 27:
		m.setImmediate(at, formatI, v)
	case 25, 28:
		m.setImmediate(at, formatS, v)
	}
	return api.OK
}

func (m *model) applyAll() api.Errno {
	for _, r := range m.file.Relas {
		if e := m.apply(r); e != api.OK {
			return e
		}
	}
	return api.OK
}

// filled returns a memory of random bytes, and its bytes.
func filled(t *testing.T) (*place.Memory, []byte) {
	t.Helper()
	r := rand.New(rand.NewSource(13))
	b := make([]byte, size)
	r.Read(b)
	m := place.NewMemory()
	if e := m.Put(base, b); e != api.OK {
		t.Fatalf("all of RAM can't be put: %d", e)
	}
	return m, bytes.Clone(b)
}

// mustHold checks every byte of a memory.
func mustHold(t *testing.T, m *place.Memory, want []byte, what string) {
	t.Helper()
	got, e := m.Get(base, size)
	if e != api.OK || len(got) != size {
		t.Fatalf("%s: all of RAM: %d bytes, error %d", what, len(got), e)
	}
	if bytes.Equal(got, want) {
		return
	}
	for i := range got {
		if got[i] != want[i] {
			t.Fatalf("%s: the byte at %x is %x, want %x", what, base+i, got[i], want[i])
		}
	}
}

// expect applies relocations to random memory and holds the error and every byte
// of memory against the model.
func expect(t *testing.T, want api.Errno, f api.File, b uint32, spans []place.Span, what string) {
	t.Helper()
	m, ram := filled(t)
	slow := model{ram: ram, file: f, bias: int64(b), spans: spans}
	if e := slow.applyAll(); e != want {
		t.Errorf("%s: the model's error is %d, not %d", what, e, want)
	}
	if e := reloc.Apply(m, f, b, spans); e != want {
		t.Errorf("%s: error %d, want %d", what, e, want)
	}
	mustHold(t, m, ram, what)
}

// whole is a span that is all of RAM.
func whole() []place.Span {
	return []place.Span{{Start: base, Size: size, Rights: 7}}
}
