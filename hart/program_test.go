package hart_test

import (
	"testing"

	"portico/api"
	"portico/csr"
	"portico/inst"
)

// program returns the words of instructions.
func program(t *testing.T, l ...api.Inst) []uint32 {
	t.Helper()
	var w []uint32
	for _, x := range l {
		w = append(w, encode(t, x))
	}
	return w
}

const (
	zero = 0
	a0   = 10
	a1   = 11
	a2   = 12
)

// backBy returns the immediate of a jump back by n instructions.
func backBy(n uint32) uint32 {
	return 0 - 4*n
}

func TestFactorial(t *testing.T) {
	s := user(program(t,
		api.Inst{Op: inst.Addi, Rd: a0, Imm: 10},
		api.Inst{Op: inst.Addi, Rd: a1, Imm: 1},
		api.Inst{Op: inst.Mul, Rd: a1, Rs1: a1, Rs2: a0},
		api.Inst{Op: inst.Addi, Rd: a0, Rs1: a0, Imm: 0xFFFFFFFF},
		api.Inst{Op: inst.Bne, Rs1: a0, Imm: backBy(2)},
		api.Inst{Op: inst.Ecall},
	)...)
	h, m := s.pair(t)
	for steps := 1; ; steps++ {
		if got := both(t, h, m); got.Trap {
			if steps != 33 || got.Cause != api.CallU || h.X[a1] != 3628800 {
				t.Fatalf("%d steps, %+v, %d", steps, got, h.X[a1])
			}
			return
		}
	}
}

// Bytes are copied backwards one by one, by a function that is called.
func TestCopy(t *testing.T) {
	s := user(program(t,
		api.Inst{Op: inst.Jal, Rd: 1, Imm: 12},
		api.Inst{Op: inst.Ebreak},
		api.Inst{Op: inst.Ebreak},
		api.Inst{Op: inst.Lbu, Rd: 5, Rs1: a0},
		api.Inst{Op: inst.Sb, Rs1: a1, Rs2: 5},
		api.Inst{Op: inst.Addi, Rd: a0, Rs1: a0, Imm: 1},
		api.Inst{Op: inst.Addi, Rd: a1, Rs1: a1, Imm: 0xFFFFFFFF},
		api.Inst{Op: inst.Addi, Rd: a2, Rs1: a2, Imm: 0xFFFFFFFF},
		api.Inst{Op: inst.Blt, Rs1: zero, Rs2: a2, Imm: backBy(5)},
		api.Inst{Op: inst.Jalr, Rs1: 1},
	)...)
	s.x[a0], s.x[a1], s.x[a2] = start, start+107, 8
	h, m := s.pair(t)
	for range 1 + 8*6 + 1 {
		if got := both(t, h, m); got.Trap {
			t.Fatalf("%+v", got)
		}
	}
	if got := both(t, h, m); got.Cause != api.Break || got.Tval != start+4 {
		t.Fatalf("%+v", got)
	}
	from, _ := h.M.Get(start, 8)
	to, _ := h.M.Get(start+100, 8)
	for i := range from {
		if from[i] != to[7-i] {
			t.Fatalf("%X is copied to %X", from, to)
		}
	}
}

// A handler in Machine mode counts the calls of a program in User mode, and goes
// on behind them; the third time it ends.
func TestHandler(t *testing.T) {
	handler := program(t,
		api.Inst{Op: inst.Csrrw, Rd: a0, Rs1: a0, Imm: csr.Mscratch},
		api.Inst{Op: inst.Addi, Rd: a0, Rs1: a0, Imm: 1},
		api.Inst{Op: inst.Csrrw, Rd: a0, Rs1: a0, Imm: csr.Mscratch},
		api.Inst{Op: inst.Csrrs, Rd: a1, Imm: csr.Mepc},
		api.Inst{Op: inst.Addi, Rd: a1, Rs1: a1, Imm: 4},
		api.Inst{Op: inst.Csrrw, Rs1: a1, Imm: csr.Mepc},
		api.Inst{Op: inst.Mret},
	)
	code := program(t,
		api.Inst{Op: inst.Ecall},
		api.Inst{Op: inst.Ecall},
		api.Inst{Op: inst.Csrrs, Rd: 7, Imm: csr.Mscratch}, // which User mode may not
		api.Inst{Op: inst.Jal, Imm: 0},
	)
	s := user(append(handler, code...)...)
	s.pc = start + uint32(4*len(handler))
	s.writes = [][2]uint32{{csr.Mtvec, start}, {csr.Mscratch, 40}}
	s.x[a0], s.x[7] = 99, 5
	h, m := s.pair(t)
	for range 3 * (1 + len(handler)) {
		both(t, h, m)
	}
	if h.Pc != s.pc+12 || h.F.Mode != csr.User || h.X[a0] != 99 || h.X[7] != 5 || control(t, h, csr.Mscratch) != 43 {
		t.Fatalf("Pc %X, mode %d, registers %X", h.Pc, h.F.Mode, h.X)
	}
	if n := control(t, h, csr.Minstret); n != uint32(3*len(handler)) {
		t.Errorf("%d instructions", n)
	}
	for range 5 {
		if got := both(t, h, m); got.Trap || h.Pc != s.pc+12 {
			t.Fatalf("%+v", got)
		}
	}
}
