package hart_test

import (
	"math/rand"
	"testing"

	"portico/api"
	"portico/csr"
	"portico/hart"
	"portico/inst"
)

func TestUpper(t *testing.T) {
	for _, k := range []struct {
		x    api.Inst
		want uint32
	}{
		{api.Inst{Op: inst.Lui, Rd: 5, Imm: 0x12345000}, 0x12345000},
		{api.Inst{Op: inst.Lui, Rd: 31, Imm: 0xFFFFF000}, 0xFFFFF000},
		{api.Inst{Op: inst.Auipc, Rd: 5, Imm: 0}, start},
		{api.Inst{Op: inst.Auipc, Rd: 1, Imm: 0x12345000}, 0x92346000},
		{api.Inst{Op: inst.Auipc, Rd: 1, Imm: 0xFFFFF000}, 0x80000000},
		{api.Inst{Op: inst.Auipc, Rd: 1, Imm: 0x80000000}, 0x00001000},
	} {
		s := user(encode(t, k.x))
		h := goes(t, s, start+4)
		s.x[k.x.Rd] = k.want
		if h.X != s.x {
			t.Errorf("%+v: registers %X", k.x, h.X)
		}
	}
}

// Each arithmetic operation on one pair of registers, or a register and an
// immediate: which operands it takes, and where the result goes.
func TestReckon(t *testing.T) {
	const a, b = 0x80000F03, 0x00000007
	for _, k := range []struct {
		op   int
		want uint32
	}{
		{inst.Add, 0x80000F0A}, {inst.Sub, 0x80000EFC}, {inst.Sll, 0x00078180}, {inst.Slt, 1}, {inst.Sltu, 0},
		{inst.Xor, 0x80000F04}, {inst.Srl, 0x0100001E}, {inst.Sra, 0xFF00001E}, {inst.Or, 0x80000F07}, {inst.And, 3},
		{inst.Mul, 0x80006915}, {inst.Mulh, 0xFFFFFFFC}, {inst.Mulhsu, 0xFFFFFFFC}, {inst.Mulhu, 3},
		{inst.Div, 0xEDB6DD93}, {inst.Divu, 0x124926B7}, {inst.Rem, 0xFFFFFFFE}, {inst.Remu, 2},
		{inst.Addi, 0x80000F0A}, {inst.Slti, 1}, {inst.Sltiu, 0}, {inst.Xori, 0x80000F04}, {inst.Ori, 0x80000F07}, {inst.Andi, 3},
		{inst.Slli, 0x00078180}, {inst.Srli, 0x0100001E}, {inst.Srai, 0xFF00001E},
	} {
		x := api.Inst{Op: k.op, Rd: 9, Rs1: 10, Imm: b}
		if inst.Form(k.op) == inst.FormR {
			x.Rs2, x.Imm = 11, 0
		}
		s := user(encode(t, x))
		s.x[10], s.x[11] = a, b
		h := goes(t, s, start+4)
		s.x[9] = k.want
		if h.X != s.x {
			t.Errorf("%+v: registers %X", x, h.X)
		}
	}
}

// Negative immediates, an operand that is the result's register, and division
// by 0.
func TestReckonSpecial(t *testing.T) {
	for _, k := range []struct {
		x    api.Inst
		a, b uint32 // registers 1 and 2
		want uint32
	}{
		{api.Inst{Op: inst.Addi, Rd: 1, Rs1: 1, Imm: 0xFFFFF800}, 0x7FF, 0, 0xFFFFFFFF},
		{api.Inst{Op: inst.Sltiu, Rd: 1, Rs1: 1, Imm: 0xFFFFFFFF}, 0x7FF, 0, 1},
		{api.Inst{Op: inst.Slti, Rd: 1, Rs1: 1, Imm: 0xFFFFFFFF}, 0x7FF, 0, 0},
		{api.Inst{Op: inst.Xori, Rd: 1, Rs1: 1, Imm: 0xFFFFFFFF}, 0x7FF, 0, 0xFFFFF800},
		{api.Inst{Op: inst.Sub, Rd: 1, Rs1: 1, Rs2: 1}, 5, 0, 0},
		{api.Inst{Op: inst.Sub, Rd: 1, Rs1: 2, Rs2: 1}, 5, 3, 0xFFFFFFFE},
		{api.Inst{Op: inst.Sub, Rd: 1, Rs1: 1, Rs2: 2}, 5, 3, 2},
		{api.Inst{Op: inst.Sub, Rd: 1, Rs1: 0, Rs2: 1}, 5, 3, 0xFFFFFFFB},
		{api.Inst{Op: inst.Div, Rd: 1, Rs1: 1, Rs2: 2}, 5, 0, 0xFFFFFFFF},
		{api.Inst{Op: inst.Remu, Rd: 1, Rs1: 1, Rs2: 2}, 5, 0, 5},
		{api.Inst{Op: inst.Div, Rd: 1, Rs1: 1, Rs2: 2}, 0x80000000, 0xFFFFFFFF, 0x80000000},
		{api.Inst{Op: inst.Rem, Rd: 1, Rs1: 1, Rs2: 2}, 0x80000000, 0xFFFFFFFF, 0},
		{api.Inst{Op: inst.Srai, Rd: 1, Rs1: 2, Imm: 31}, 0, 0x80000000, 0xFFFFFFFF},
		{api.Inst{Op: inst.Sll, Rd: 1, Rs1: 2, Rs2: 1}, 0xFFFFFFE1, 3, 6},
	} {
		s := machine(encode(t, k.x))
		s.x[1], s.x[2] = k.a, k.b
		h := goes(t, s, start+4)
		s.x[1] = k.want
		if h.X != s.x {
			t.Errorf("%+v: registers %X", k.x, h.X)
		}
	}
}

// Each operation with any registers.
func TestRegisterFields(t *testing.T) {
	r := rand.New(rand.NewSource(1))
	for op := inst.Addi; op < inst.Fence; op++ {
		for i := range 32 {
			for _, x := range []api.Inst{{Op: op, Rd: i, Rs1: 3, Rs2: 4}, {Op: op, Rd: 3, Rs1: i, Rs2: 4}, {Op: op, Rd: 3, Rs1: 4, Rs2: i}} {
				if inst.Form(op) != inst.FormR {
					x.Imm, x.Rs2 = uint32(x.Rs2), 0
				}
				s := user(encode(t, x))
				for k := 1; k < 32; k++ {
					s.x[k] = r.Uint32()
				}
				check(t, s)
			}
		}
	}
}

func TestJal(t *testing.T) {
	for _, k := range []struct{ imm, target uint32 }{
		{0, start}, {4, start + 4}, {8, start + 8}, {0xFFFFFFFC, start - 4}, {0x0FFFFC, 0x80100FFC}, {0xFFF00000, 0x7FF01000},
	} {
		s := user(encode(t, api.Inst{Op: inst.Jal, Rd: 1, Imm: k.imm}))
		h := goes(t, s, k.target)
		s.x[1] = start + 4
		if h.X != s.x {
			t.Errorf("%+v: registers %X", k, h.X)
		}
	}
	for _, k := range []struct{ imm, target uint32 }{
		{2, start + 2}, {6, start + 6}, {0xFFFFFFFE, start - 2}, {0x0FFFFE, 0x80100FFE}, {0xFFF00002, 0x7FF01002},
	} {
		s := user(encode(t, api.Inst{Op: inst.Jal, Rd: 1, Imm: k.imm}))
		s.x[1] = 7
		fails(t, s, hart.Trace{Word: encode(t, api.Inst{Op: inst.Jal, Rd: 1, Imm: k.imm}), Cause: 0, Tval: k.target})
	}
}

func TestJalr(t *testing.T) {
	for _, k := range []struct{ from, imm, target uint32 }{
		{start, 0, start}, {start, 8, start + 8}, {start + 1, 0, start}, {start, 1, start}, {start + 3, 1, start + 4},
		{start, 0xFFFFF800, start - 2048}, {0, 4, 4}, {0, 0xFFFFFFFC, 0xFFFFFFFC}, {0xFFFFFFFC, 4, 0}, {0xFFFFFFFF, 2, 0},
		{0xFFFFFFFF, 0x7FE, 0x7FC},
	} {
		for _, rd := range []int{0, 1, 2} {
			s := machine(encode(t, api.Inst{Op: inst.Jalr, Rd: rd, Rs1: 2, Imm: k.imm}))
			s.x[2] = k.from
			h := goes(t, s, k.target)
			if rd > 0 {
				s.x[rd] = start + 4
			}
			if h.X != s.x {
				t.Errorf("%+v: registers %X", k, h.X)
			}
		}
	}
	for _, k := range []struct{ from, imm, target uint32 }{
		{start + 2, 0, start + 2}, {start + 3, 0, start + 2}, {start, 2, start + 2}, {start + 1, 1, start + 2}, {start, 3, start + 2},
		{0xFFFFFFFF, 0, 0xFFFFFFFE}, {0xFFFFFFFF, 3, 2}, {0xFFFFFFFF, 4, 2},
	} {
		for _, rd := range []int{0, 1, 2} {
			x := api.Inst{Op: inst.Jalr, Rd: rd, Rs1: 2, Imm: k.imm}
			s := user(encode(t, x))
			s.x[1], s.x[2] = 7, k.from
			fails(t, s, hart.Trace{Word: encode(t, x), Cause: 0, Tval: k.target})
		}
	}
}

// A jump to where nothing may be executed is a jump: the next step traps there.
func TestJumpToNowhere(t *testing.T) {
	s := user(encode(t, api.Inst{Op: inst.Jalr, Rd: 1, Rs1: 2}))
	s.x[2] = 0x1000
	h, m := s.pair(t)
	if got := both(t, h, m); got.Trap || h.Pc != 0x1000 || h.X[1] != start+4 {
		t.Fatalf("got %+v, Pc %X", got, h.Pc)
	}
	if got := both(t, h, m); got != (hart.Trace{Trap: true, Cause: 1, Tval: 0x1000}) || control(t, h, csr.Mepc) != 0x1000 {
		t.Fatalf("got %+v", got)
	}
}

func TestBranches(t *testing.T) {
	const low, high = 5, 0xFFFFFFF0 // high is negative
	for _, k := range []struct {
		op     int
		a, b   uint32
		branch bool
	}{
		{inst.Beq, low, low, true}, {inst.Beq, low, high, false}, {inst.Bne, low, low, false}, {inst.Bne, low, high, true},
		{inst.Blt, low, high, false}, {inst.Blt, high, low, true}, {inst.Blt, low, low, false},
		{inst.Bge, low, high, true}, {inst.Bge, high, low, false}, {inst.Bge, low, low, true},
		{inst.Bltu, low, high, true}, {inst.Bltu, high, low, false}, {inst.Bltu, low, low, false},
		{inst.Bgeu, low, high, false}, {inst.Bgeu, high, low, true}, {inst.Bgeu, low, low, true},
	} {
		for _, imm := range []uint32{0, 8, 0xFFFFF000, 4092, 2, 0xFFFFFFFE, 4094} {
			x := api.Inst{Op: k.op, Rs1: 8, Rs2: 9, Imm: imm}
			s := user(encode(t, x))
			s.x[8], s.x[9] = k.a, k.b
			target := start + 4
			switch {
			case !k.branch:
			case imm%4 != 0:
				fails(t, s, hart.Trace{Word: encode(t, x), Cause: 0, Tval: start + imm})
				continue
			default:
				target = int(start + imm)
			}
			if h := goes(t, s, uint32(target)); h.X != s.x {
				t.Errorf("%+v: registers %X", x, h.X)
			}
		}
	}
}

func TestWfi(t *testing.T) {
	wfi := encode(t, api.Inst{Op: inst.Wfi})
	if h := goes(t, machine(wfi), start+4); h.X != [32]uint32{} || h.F.Mode != csr.Machine {
		t.Errorf("registers %X, mode %d", h.X, h.F.Mode)
	}
	fails(t, user(wfi), hart.Trace{Word: wfi, Cause: 2, Tval: wfi})
}

func TestFence(t *testing.T) {
	for _, w := range []uint32{0x0000000F, 0x0FF0000F, 0x8330000F, 0xFFFF8F8F} {
		for _, s := range []state{machine(w), user(w)} {
			s.x[31], s.x[1] = 5, 6
			if h := goes(t, s, start+4); h.X != s.x || h.F.Mode != s.mode {
				t.Errorf("%X: registers %X, mode %d", w, h.X, h.F.Mode)
			}
		}
	}
}

func TestEcall(t *testing.T) {
	w := encode(t, api.Inst{Op: inst.Ecall})
	fails(t, user(w), hart.Trace{Word: w, Cause: 8, Tval: 0})
	fails(t, machine(w), hart.Trace{Word: w, Cause: 11, Tval: 0})
}

func TestEbreak(t *testing.T) {
	w := encode(t, api.Inst{Op: inst.Ebreak})
	fails(t, user(w), hart.Trace{Word: w, Cause: 3, Tval: start})
	fails(t, machine(w), hart.Trace{Word: w, Cause: 3, Tval: start})
}

func TestMret(t *testing.T) {
	w := encode(t, api.Inst{Op: inst.Mret})
	fails(t, user(w), hart.Trace{Word: w, Cause: 2, Tval: w})
	for _, k := range []struct {
		status, after uint32
		mode          int
	}{
		{0, 0x80, csr.User}, {0x1800, 0x80, csr.Machine}, {0x80, 0x88, csr.User}, {0x1880, 0x88, csr.Machine}, {0x1888, 0x88, csr.Machine},
	} {
		s := machine(w)
		s.writes = [][2]uint32{{csr.Mstatus, k.status}, {csr.Mepc, 0x80002003}, {csr.Mtvec, 0x80000400}}
		h := goes(t, s, 0x80002000)
		if h.F.Mode != k.mode || control(t, h, csr.Mstatus) != k.after || h.X != s.x {
			t.Errorf("%+v: mode %d, Mstatus %X", k, h.F.Mode, control(t, h, csr.Mstatus))
		}
	}
}
