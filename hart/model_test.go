package hart_test

import (
	"bytes"
	"math/big"
	"testing"

	"portico/api"
	"portico/csr"
	"portico/hart"
	"portico/place"
)

const (
	base = 0x80000000 // of RAM
	size = 65536
)

// A model is a hart that takes instructions apart by the tables of the RISC-V
// manual, has bytes instead of a memory, and calculates without bounds. Only
// its control and status registers are layer 15's.
type model struct {
	x   [32]uint32
	pc  uint32
	f   *csr.File
	ram []byte
}

// The parts of a word.
type parts struct {
	word                           uint32
	opcode, rd, f3, rs1, rs2, high uint32
}

func take(w uint32) parts {
	return parts{w, w % 0x80, w / 0x80 % 0x20, w / 0x1000 % 8, w / 0x8000 % 0x20, w / 0x100000 % 0x20, w / 0x2000000}
}

func (m *model) step() hart.Trace {
	before, pc, f := m.x, m.pc, m.f
	t := hart.Trace{}
	switch {
	case f.Due():
		stop(&t, 0x80000007, 0)
	case pc%4 != 0:
		stop(&t, 0, pc)
	case !m.may(pc, 4, 4):
		stop(&t, 1, pc)
	default:
		t.Word = uint32(m.fetch(pc, 4))
		m.pc = pc + 4
		m.execute(take(t.Word), pc, &t)
	}
	m.x[0] = 0
	if t.Trap {
		m.x = before
		m.pc = f.Trap(pc, t.Cause, t.Tval)
	}
	f.Tick(!t.Trap)
	return t
}

func stop(t *hart.Trace, cause, tval uint32) {
	t.Trap, t.Cause, t.Tval = true, cause, tval
}

func (m *model) may(at uint32, n, right int) bool {
	return int64(at) >= base && int64(at)+int64(n) <= base+size && m.f.May1(at, n, right)
}

// fetch returns the integer of n bytes of RAM.
func (m *model) fetch(at uint32, n int) int64 {
	y := int64(0)
	for i := n - 1; i >= 0; i-- {
		y = y*256 + int64(m.ram[int(at-base)+i])
	}
	return y
}

func (m *model) execute(p parts, pc uint32, t *hart.Trace) {
	switch p.opcode {
	case 0x37:
		m.x[p.rd] = p.word / 4096 * 4096
	case 0x17:
		m.x[p.rd] = pc + p.word/4096*4096
	case 0x6F:
		m.jump(p.rd, pc, pc+jumpOffset(p.word), t)
	case 0x67:
		if p.f3 != 0 {
			stop(t, 2, p.word)
			return
		}
		target := m.x[p.rs1] + twelve(p.word>>20)
		m.jump(p.rd, pc, target-target%2, t)
	case 0x63:
		m.branch(p, pc, t)
	case 0x03:
		m.load(p, t)
	case 0x23:
		m.store(p, t)
	case 0x13:
		m.immediate(p, t)
	case 0x33:
		m.registers(p, t)
	case 0x0F:
		if p.f3 != 0 {
			stop(t, 2, p.word)
		}
	case 0x73:
		m.system(p, pc, t)
	default:
		stop(t, 2, p.word)
	}
}

// twelve extends the sign of 12 bits.
func twelve(x uint32) uint32 {
	if x%4096 >= 2048 {
		return x%4096 - 4096
	}
	return x % 4096
}

func jumpOffset(w uint32) uint32 {
	off := w>>21%1024*2 + w>>20%2*2048 + w>>12%256*4096
	if w>>31 == 1 {
		off -= 1048576
	}
	return off
}

func branchOffset(w uint32) uint32 {
	off := w>>8%16*2 + w>>25%64*32 + w>>7%2*2048
	if w>>31 == 1 {
		off -= 4096
	}
	return off
}

func (m *model) jump(rd, pc, target uint32, t *hart.Trace) {
	if target%4 != 0 {
		stop(t, 0, target)
		return
	}
	m.x[rd] = pc + 4
	m.pc = target
}

func (m *model) branch(p parts, pc uint32, t *hart.Trace) {
	a, b := m.x[p.rs1], m.x[p.rs2]
	taken := false
	switch p.f3 {
	case 0:
		taken = a == b
	case 1:
		taken = a != b
	case 4:
		taken = value(a) < value(b)
	case 5:
		taken = value(a) >= value(b)
	case 6:
		taken = a < b
	case 7:
		taken = a >= b
	default:
		stop(t, 2, p.word)
	}
	if taken {
		m.jump(0, pc, pc+branchOffset(p.word), t)
	}
}

// value is a word's value as a signed integer.
func value(x uint32) int64 {
	if x >= 1<<31 {
		return int64(x) - 1<<32
	}
	return int64(x)
}

func (m *model) load(p parts, t *hart.Trace) {
	if p.f3 == 3 || p.f3 > 5 {
		stop(t, 2, p.word)
		return
	}
	t.At, t.Width = m.x[p.rs1]+twelve(p.word>>20), 1<<(p.f3%4)
	if t.At%uint32(t.Width) != 0 {
		stop(t, 4, t.At)
		return
	}
	if !m.may(t.At, t.Width, 1) {
		stop(t, 5, t.At)
		return
	}
	y := m.fetch(t.At, t.Width)
	if p.f3 < 2 && y >= 1<<(8*t.Width-1) {
		y -= 1 << (8 * t.Width)
	}
	m.x[p.rd] = uint32(y)
}

func (m *model) store(p parts, t *hart.Trace) {
	if p.f3 > 2 {
		stop(t, 2, p.word)
		return
	}
	t.At, t.Width, t.Store = m.x[p.rs1]+twelve(p.high*32+p.rd), 1<<p.f3, true
	if t.At%uint32(t.Width) != 0 {
		stop(t, 6, t.At)
		return
	}
	if !m.may(t.At, t.Width, 2) {
		stop(t, 7, t.At)
		return
	}
	y := m.x[p.rs2]
	for i := range t.Width {
		m.ram[int(t.At-base)+i] = byte(y % 256)
		y /= 256
	}
}

func (m *model) immediate(p parts, t *hart.Trace) {
	b, high := twelve(p.word>>20), uint32(0)
	if p.f3 == 1 || p.f3 == 5 {
		b, high = p.rs2, p.high
	}
	if high != 0 && (high != 0x20 || p.f3 != 5) {
		stop(t, 2, p.word)
		return
	}
	m.x[p.rd] = basic(p.f3, high, m.x[p.rs1], b)
}

func (m *model) registers(p parts, t *hart.Trace) {
	a, b := m.x[p.rs1], m.x[p.rs2]
	switch {
	case p.high == 0, p.high == 0x20 && (p.f3 == 0 || p.f3 == 5):
		m.x[p.rd] = basic(p.f3, p.high, a, b)
	case p.high == 1 && p.f3 < 4:
		m.x[p.rd] = product(p.f3, a, b)
	case p.high == 1:
		m.x[p.rd] = division(p.f3, a, b)
	default:
		stop(t, 2, p.word)
	}
}

func basic(f3, high, a, b uint32) uint32 {
	switch {
	case f3 == 0 && high != 0:
		return uint32(int64(a) - int64(b))
	case f3 == 0:
		return uint32(int64(a) + int64(b))
	case f3 == 1:
		return uint32(uint64(a) << (b % 32))
	case f3 == 2 && value(a) < value(b), f3 == 3 && a < b:
		return 1
	case f3 == 2 || f3 == 3:
		return 0
	case f3 == 4:
		return (a | b) - (a & b)
	case f3 == 5 && high != 0:
		return uint32(value(a) >> (b % 32))
	case f3 == 5:
		return uint32(uint64(a) >> (b % 32))
	case f3 == 6:
		return a + b - (a & b)
	default:
		return ^(^a | ^b)
	}
}

func product(f3, a, b uint32) uint32 {
	x, y := big.NewInt(int64(a)), big.NewInt(int64(b))
	if f3 == 1 || f3 == 2 {
		x = big.NewInt(value(a))
	}
	if f3 == 1 {
		y = big.NewInt(value(b))
	}
	x.Mul(x, y)
	if f3 != 0 {
		x.Rsh(x, 32)
	}
	return uint32(x.And(x, big.NewInt(1<<32-1)).Uint64())
}

func division(f3, a, b uint32) uint32 {
	x, y := int64(a), int64(b)
	if f3%2 == 0 {
		x, y = value(a), value(b)
	}
	switch {
	case f3 < 6 && b == 0:
		return 0xFFFFFFFF
	case f3 < 6:
		return uint32(x / y)
	case b == 0:
		return a
	default:
		return uint32(x % y)
	}
}

func (m *model) system(p parts, pc uint32, t *hart.Trace) {
	machine := m.f.Mode == 3
	switch {
	case p.f3%4 != 0:
		m.control(p, t)
	case p.word == 0x00000073 && machine:
		stop(t, 11, 0)
	case p.word == 0x00000073:
		stop(t, 8, 0)
	case p.word == 0x00100073:
		stop(t, 3, pc)
	case p.word == 0x30200073 && machine:
		m.pc = m.f.Back()
	case p.word == 0x10500073 && machine:
	default:
		stop(t, 2, p.word)
	}
}

func (m *model) control(p parts, t *hart.Trace) {
	n := p.word >> 20
	operand := m.x[p.rs1]
	if p.f3 > 4 {
		operand = p.rs1
	}
	old, exists := m.f.Read(n)
	keeps := p.f3%4 > 1 && p.rs1 == 0
	if !exists || m.f.Mode != 3 && n/256%4 != 0 || n >= 0xC00 && !keeps {
		stop(t, 2, p.word)
		return
	}
	if !keeps {
		m.f.Write(n, map[uint32]uint32{1: operand, 2: old | operand, 3: old & ^operand}[p.f3%4])
	}
	m.x[p.rd] = old
}

// A state is what a hart and a model can be put into.
type state struct {
	x       [32]uint32
	pc      uint32
	mode    int
	timer   bool
	entries []api.Entry
	writes  [][2]uint32 // to control and status registers, one after the other
	at      uint32      // where the bytes stand
	bytes   []byte
}

// file returns the control and status registers of a state.
func (s state) file(t *testing.T) *csr.File {
	t.Helper()
	f := csr.New()
	if e := f.Protect(s.entries); e != api.OK {
		t.Fatal(e)
	}
	for _, w := range s.writes {
		f.Write(w[0], w[1])
	}
	f.Timer(s.timer)
	f.Mode = s.mode
	return f
}

// pair returns a hart and a model in the same state.
func (s state) pair(t *testing.T) (*hart.Hart, *model) {
	t.Helper()
	h := hart.New(place.NewMemory())
	if e := h.M.Put(s.at, s.bytes); e != api.OK {
		t.Fatal(e)
	}
	h.X, h.Pc, h.F = s.x, s.pc, s.file(t)
	m := &model{x: s.x, pc: s.pc, f: s.file(t), ram: make([]byte, size)}
	copy(m.ram[s.at-base:], s.bytes)
	return h, m
}

// words returns the bytes of instruction words.
func words(l ...uint32) []byte {
	var b []byte
	for _, w := range l {
		b = append(b, byte(w), byte(w>>8), byte(w>>16), byte(w>>24))
	}
	return b
}

// numbers returns the numbers of all control and status registers.
func numbers() []uint32 {
	l := []uint32{0x300, 0x301, 0x304, 0x305, 0x340, 0x341, 0x342, 0x343, 0x344, 0xB00, 0xB02, 0xB80, 0xB82, 0xF11, 0xF12, 0xF13, 0xF14}
	for i := range uint32(4) {
		l = append(l, 0x3A0+i)
	}
	for i := range uint32(16) {
		l = append(l, 0x3B0+i)
	}
	return l
}

var allNumbers = numbers()

// same holds all that a hart has against the model's.
func same(t *testing.T, h *hart.Hart, m *model) {
	t.Helper()
	if h.X != m.x || h.Pc != m.pc {
		t.Fatalf("registers %X, Pc %X, want %X, %X", h.X, h.Pc, m.x, m.pc)
	}
	if h.F.Mode != m.f.Mode {
		t.Fatalf("mode %d, want %d", h.F.Mode, m.f.Mode)
	}
	for _, n := range allNumbers {
		got, _ := h.F.Read(n)
		if want, _ := m.f.Read(n); got != want {
			t.Fatalf("register %X is %X, want %X", n, got, want)
		}
	}
	if !bytes.Equal(contents(t, h.M), m.ram) {
		t.Fatal("memory differs")
	}
}

// contents returns all of RAM.
func contents(t *testing.T, m *place.Memory) []byte {
	t.Helper()
	b, e := m.Get(base, size)
	if e != api.OK {
		t.Fatal(e)
	}
	return b
}

// both does a step with a hart and a model, and holds one against the other.
func both(t *testing.T, h *hart.Hart, m *model) hart.Trace {
	t.Helper()
	pc, x := m.pc, m.x
	want := m.step()
	if got := h.Step(); got != want {
		t.Fatalf("at %X, registers %X: trace %+v, want %+v", pc, x, got, want)
	}
	same(t, h, m)
	return want
}

// check does one step from a state.
func check(t *testing.T, s state) (*hart.Hart, hart.Trace) {
	t.Helper()
	h, m := s.pair(t)
	return h, both(t, h, m)
}
