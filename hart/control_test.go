package hart_test

import (
	"testing"

	"portico/api"
	"portico/csr"
	"portico/hart"
	"portico/inst"
)

// controlling lists the operations on control and status registers.
var controlling = []int{inst.Csrrw, inst.Csrrs, inst.Csrrc, inst.Csrrwi, inst.Csrrsi, inst.Csrrci}

func TestControl(t *testing.T) {
	const old = 0xF0F0F00F
	for _, k := range []struct {
		op, rs1 int
		operand uint32 // of register 6
		want    uint32
	}{
		{inst.Csrrw, 6, 0x12345678, 0x12345678}, {inst.Csrrw, 6, 0, 0}, {inst.Csrrw, 0, 0, 0},
		{inst.Csrrs, 6, 0x12345678, 0xF2F4F67F}, {inst.Csrrs, 6, 0, old}, {inst.Csrrs, 0, 0, old},
		{inst.Csrrc, 6, 0x12345678, 0xE0C0A007}, {inst.Csrrc, 6, 0, old}, {inst.Csrrc, 0, 0, old},
		{inst.Csrrwi, 6, 99, 6}, {inst.Csrrwi, 0, 99, 0}, {inst.Csrrwi, 31, 99, 31},
		{inst.Csrrsi, 16, 99, 0xF0F0F01F}, {inst.Csrrsi, 0, 99, old}, {inst.Csrrsi, 31, 99, 0xF0F0F01F},
		{inst.Csrrci, 6, 99, 0xF0F0F009}, {inst.Csrrci, 0, 99, old}, {inst.Csrrci, 31, 99, 0xF0F0F000},
	} {
		for _, rd := range []int{0, 5, 6} {
			s := machine(encode(t, api.Inst{Op: k.op, Rd: rd, Rs1: k.rs1, Imm: csr.Mscratch}))
			s.writes = [][2]uint32{{csr.Mscratch, old}}
			s.x[5], s.x[6], s.x[16], s.x[31] = 77, k.operand, 88, 99
			h := goes(t, s, start+4)
			if rd > 0 {
				s.x[rd] = old
			}
			if got := control(t, h, csr.Mscratch); got != k.want || h.X != s.x {
				t.Errorf("%+v to %d: %X, registers %X", k, rd, got, h.X)
			}
		}
	}
}

// Every number in both modes, with an operand and without one.
func TestControlNumbers(t *testing.T) {
	exist := map[uint32]bool{}
	for _, n := range allNumbers {
		exist[n] = true
	}
	h, _ := user().pair(t)
	for n := range uint32(4096) {
		for _, op := range controlling {
			for _, rs1 := range []int{0, 6} {
				w := encode(t, api.Inst{Op: op, Rd: 5, Rs1: rs1, Imm: n})
				refuses(t, h, csr.User, w)
				keeps := rs1 == 0 && op != inst.Csrrw && op != inst.Csrrwi
				if !exist[n] || n >= 0xC00 && !keeps {
					refuses(t, h, csr.Machine, w)
					continue
				}
				s := machine(w)
				s.x[6] = 0x12345678
				if _, got := check(t, s); got != (hart.Trace{Word: w}) {
					t.Fatalf("%X: %+v", w, got)
				}
			}
		}
	}
}

// refuses expects a word to be illegal, also if the hart has executed others.
func refuses(t *testing.T, h *hart.Hart, mode int, w uint32) {
	t.Helper()
	h.F.Mode, h.Pc = mode, start
	h.M.Store(start, 4, w)
	before := h.X
	if got := h.Step(); got != (hart.Trace{Word: w, Trap: true, Cause: 2, Tval: w}) || h.X != before {
		t.Fatalf("%X in mode %d: %+v", w, mode, got)
	}
}

// A register that can't be written may be read; an operand of 0 counts as a
// write, unless the field is 0.
func TestVendor(t *testing.T) {
	for n := uint32(0xF10); n <= 0xF15; n++ {
		for _, op := range controlling {
			for _, rs1 := range []int{0, 6} {
				w := encode(t, api.Inst{Op: op, Rd: 5, Rs1: rs1, Imm: n})
				s := machine(w)
				s.x[5] = 7
				writes := rs1 > 0 || op == inst.Csrrw || op == inst.Csrrwi
				if writes || n == 0xF10 || n == 0xF15 {
					fails(t, s, hart.Trace{Word: w, Cause: 2, Tval: w})
				} else if h := goes(t, s, start+4); h.X != [32]uint32{} {
					t.Errorf("%X: registers %X", n, h.X)
				}
			}
		}
	}
}

// What is set or cleared in a register goes by its value as it is read; the
// register keeps of it what it can.
func TestControlKeeps(t *testing.T) {
	for _, k := range []struct {
		op        int
		n, before uint32
		operand   uint32
		rd, after uint32
	}{
		{inst.Csrrs, csr.Mstatus, 0x80, 0xFFFFFFFF, 0x80, 0x1888},
		{inst.Csrrc, csr.Mstatus, 0x1888, 0x800, 0x1888, 0x88}, // an MPP of 2
		{inst.Csrrs, csr.Misa, 0, 0xFFFFFFFF, 0x40101100, 0x40101100},
		{inst.Csrrw, csr.Misa, 0, 0, 0x40101100, 0x40101100},
		{inst.Csrrw, csr.Mip, 0, 0xFFFFFFFF, 0, 0},
		{inst.Csrrw, csr.Mie, 0, 0xFFFFFFFF, 0, 0x80},
		{inst.Csrrw, csr.Mtvec, 0x1000, 0x2003, 0x1000, 0x2000},
		{inst.Csrrs, csr.Mepc, 0x1000, 0x2003, 0x1000, 0x3000},
		{inst.Csrrs, csr.Pmpcfg + 1, 0x01020304, 0x1A1A1A1A, 0x01000304, 0x1B181B1C},
		{inst.Csrrs, csr.Pmpcfg, 0x98, 7, 0x98, 0x98},
		{inst.Csrrw, csr.Pmpaddr + 15, 5, 9, 5, 9},
	} {
		s := machine(encode(t, api.Inst{Op: k.op, Rd: 5, Rs1: 6, Imm: k.n}))
		s.writes = [][2]uint32{{k.n, k.before}}
		s.x[6] = k.operand
		h := goes(t, s, start+4)
		if got := control(t, h, k.n); h.X[5] != k.rd || got != k.after {
			t.Errorf("%+v: %X, then %X", k, h.X[5], got)
		}
	}
}

// The counters are read as they are ahead of the step, and count on from what
// is written.
func TestCounters(t *testing.T) {
	const most = 0xFFFFFFFF
	for _, k := range []struct {
		n, half uint32 // what is written, and the other half
		operand uint32
		after   [2]uint32
	}{
		{csr.Mcycle, csr.Cycleh, 100, [2]uint32{101, 7}},
		{csr.Minstret, csr.Instreth, 100, [2]uint32{101, 7}},
		{csr.Mcycle, csr.Cycleh, most, [2]uint32{0, 8}},
		{csr.Minstret, csr.Instreth, most, [2]uint32{0, 8}},
		{csr.Cycleh, csr.Mcycle, 100, [2]uint32{100, 8}},
		{csr.Instreth, csr.Minstret, 100, [2]uint32{100, 8}},
	} {
		s := machine(encode(t, api.Inst{Op: inst.Csrrw, Rd: 5, Rs1: 6, Imm: k.n}))
		s.writes = [][2]uint32{{csr.Mcycle, 7}, {csr.Minstret, 7}, {csr.Cycleh, 7}, {csr.Instreth, 7}}
		s.x[6] = k.operand
		h, _ := check(t, s)
		if h.X[5] != 7 || control(t, h, k.n) != k.after[0] || control(t, h, k.half) != k.after[1] {
			t.Errorf("%+v: read %d, then %d and %d", k, h.X[5], control(t, h, k.n), control(t, h, k.half))
		}
	}
}

// A trap counts a cycle but no instruction; Mret counts both.
func TestCountsOfTraps(t *testing.T) {
	s := user(encode(t, api.Inst{Op: inst.Ecall}))
	s.writes = [][2]uint32{{csr.Mtvec, start + 4}}
	s.bytes = append(s.bytes, words(encode(t, api.Inst{Op: inst.Mret}))...)
	h, m := s.pair(t)
	for i, want := range [][2]uint32{{1, 0}, {2, 1}, {3, 1}, {4, 2}} {
		both(t, h, m)
		if c, n := control(t, h, csr.Mcycle), control(t, h, csr.Minstret); c != want[0] || n != want[1] {
			t.Errorf("after step %d: %d cycles, %d instructions", i+1, c, n)
		}
	}
}
