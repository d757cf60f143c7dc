package alu_test

import (
	"slices"
	"testing"

	"portico/alu"
	"portico/inst"
)

// Literal results, written by hand.
func TestReckonExamples(t *testing.T) {
	const half, last = 1 << 31, 1<<32 - 1
	for _, x := range []struct {
		name       string
		op         int
		a, b, want uint32
	}{
		{"the chapter's example", inst.Div, 1<<32 - 7, 2, 1<<32 - 3},
		{"Add wraps round", inst.Add, last, 1, 0},
		{"Addi with -1", inst.Addi, 5, last, 4},
		{"Sub wraps round", inst.Sub, 0, 1, last},
		{"Sll by 31", inst.Sll, 3, 31, half},
		{"Sll by 32 is by 0", inst.Sll, 3, 32, 3},
		{"Slli by 4", inst.Slli, 0x12345678, 4, 0x23456780},
		{"Sll by -1 is by 31", inst.Sll, 1, last, half},
		{"Srl by 31", inst.Srl, half, 31, 1},
		{"Srl by 33 is by 1", inst.Srl, half, 33, 1 << 30},
		{"Srli by 0", inst.Srli, half, 0, half},
		{"Sra by 31 of a negative number", inst.Sra, half, 31, last},
		{"Sra by 31 of a positive number", inst.Sra, half - 1, 31, 0},
		{"Sra by 36 is by 4", inst.Sra, 0xF0000000, 36, 0xFF000000},
		{"Srai by 4", inst.Srai, 0x80000000, 4, 0xF8000000},
		{"Slt of -2^31 and 2^31 - 1", inst.Slt, half, half - 1, 1},
		{"Slt of 2^31 - 1 and -2^31", inst.Slt, half - 1, half, 0},
		{"Slt of equals", inst.Slt, 7, 7, 0},
		{"Slti of 0 and -1", inst.Slti, 0, last, 0},
		{"Sltu of 0 and 2^32 - 1", inst.Sltu, 0, last, 1},
		{"Sltu of equals", inst.Sltu, last, last, 0},
		{"Sltiu of 2^32 - 1 and 0", inst.Sltiu, last, 0, 0},
		{"Xor", inst.Xor, 0xFF00FF00, 0x0F0F0F0F, 0xF00FF00F},
		{"Xori with -1", inst.Xori, 0x12345678, last, 0xEDCBA987},
		{"Or", inst.Or, 0xFF00FF00, 0x0F0F0F0F, 0xFF0FFF0F},
		{"Ori", inst.Ori, 0x100, 0x00F, 0x10F},
		{"And", inst.And, 0xFF00FF00, 0x0F0F0F0F, 0x0F000F00},
		{"Andi", inst.Andi, 0x12345678, 0xFF, 0x78},
		{"Mul", inst.Mul, 0x10001, 0x10001, 0x20001},
		{"Mul of -3 and 5", inst.Mul, 1<<32 - 3, 5, 1<<32 - 15},
		{"Mulh of two negative numbers", inst.Mulh, last, last, 0},
		{"Mulh of -2^31 and -2^31", inst.Mulh, half, half, 1 << 30},
		{"Mulh of -1 and 1", inst.Mulh, last, 1, last},
		{"Mulh", inst.Mulh, 0xAAAAAAAB, 0x0002FE7D, 0xFFFF0081},
		{"Mulhsu of -1 and 2^32 - 1", inst.Mulhsu, last, last, last},
		{"Mulhsu of 1 and 2^32 - 1", inst.Mulhsu, 1, last, 0},
		{"Mulhsu of -2^31 and 2^32 - 1", inst.Mulhsu, half, last, half},
		{"Mulhsu, signed first", inst.Mulhsu, 0xAAAAAAAB, 0x0002FE7D, 0xFFFF0081},
		{"Mulhsu, unsigned second", inst.Mulhsu, 0x0002FE7D, 0xAAAAAAAB, 0x0001FEFE},
		{"Mulhu of 2^32 - 1 twice", inst.Mulhu, last, last, last - 1},
		{"Mulhu", inst.Mulhu, 0xAAAAAAAB, 0x0002FE7D, 0x0001FEFE},
		{"Div of 7 by -2", inst.Div, 7, 1<<32 - 2, 1<<32 - 3},
		{"Div of -7 by -2", inst.Div, 1<<32 - 7, 1<<32 - 2, 3},
		{"Div by 0", inst.Div, 7, 0, last},
		{"Div of -7 by 0", inst.Div, 1<<32 - 7, 0, last},
		{"Div of 0 by 0", inst.Div, 0, 0, last},
		{"Div of -2^31 by -1", inst.Div, half, last, half},
		{"Div of -2^31 by 1", inst.Div, half, 1, half},
		{"Rem of 7 by -2", inst.Rem, 7, 1<<32 - 2, 1},
		{"Rem of -7 by 2", inst.Rem, 1<<32 - 7, 2, last},
		{"Rem by 0", inst.Rem, 1<<32 - 7, 0, 1<<32 - 7},
		{"Rem of -2^31 by -1", inst.Rem, half, last, 0},
		{"Divu", inst.Divu, 1<<32 - 7, 2, half - 4},
		{"Divu of 2^31 by 2^32 - 1", inst.Divu, half, last, 0},
		{"Divu by 0", inst.Divu, 7, 0, last},
		{"Divu of 0 by 0", inst.Divu, 0, 0, last},
		{"Remu", inst.Remu, 1<<32 - 7, 2, 1},
		{"Remu of 2^31 by 2^32 - 1", inst.Remu, half, last, half},
		{"Remu by 0", inst.Remu, half + 1, 0, half + 1},
		{"Remu of 0 by 0", inst.Remu, 0, 0, 0},
	} {
		if got, ok := alu.Reckon(x.op, x.a, x.b); got != x.want || !ok {
			t.Errorf("%s: %X, %v; want %X, true", x.name, got, ok, x.want)
		}
	}
}

func TestReckonAgainstModel(t *testing.T) {
	list := arithmetics()
	pairs(t, func(a, b uint32) {
		x, y := operandOf(a), operandOf(b)
		for _, l := range list {
			want := word(l.answer(x, y))
			for _, op := range l.ops {
				if got, ok := alu.Reckon(op, a, b); got != want || !ok {
					t.Fatalf("%s (%d) of %X and %X: %X, %v; want %X, true", l.name, op, a, b, got, ok, want)
				}
			}
		}
	})
}

// Quotient and remainder belong together, whatever is divided.
func TestQuotientsAndRemainders(t *testing.T) {
	pairs(t, func(a, b uint32) {
		for _, ops := range [][2]int{{inst.Div, inst.Rem}, {inst.Divu, inst.Remu}} {
			q, _ := alu.Reckon(ops[0], a, b)
			r, _ := alu.Reckon(ops[1], a, b)
			if q*b+r != a {
				t.Fatalf("%d and %d: %X by %X is %X with the remainder %X", ops[0], ops[1], a, b, q, r)
			}
		}
	})
}

func TestReckonOtherOperations(t *testing.T) {
	var known []int
	for _, l := range arithmetics() {
		known = append(known, l.ops...)
	}
	if len(known) != 27 {
		t.Fatalf("%d operations, want 27", len(known))
	}
	for _, op := range every() {
		for _, x := range [][2]uint32{{0, 0}, {7, 2}, {1 << 31, 1<<32 - 1}, {5, 0}} {
			got, ok := alu.Reckon(op, x[0], x[1])
			if ok != slices.Contains(known, op) || got != 0 && !ok {
				t.Fatalf("operation %d of %X and %X: %X, %v", op, x[0], x[1], got, ok)
			}
		}
	}
}

func TestGoesExamples(t *testing.T) {
	const half, last = 1 << 31, 1<<32 - 1
	for _, x := range []struct {
		name string
		op   int
		a, b uint32
		want bool
	}{
		{"Beq of equals", inst.Beq, last, last, true},
		{"Beq", inst.Beq, 0, half, false},
		{"Bne of equals", inst.Bne, half, half, false},
		{"Bne", inst.Bne, 0, half, true},
		{"Blt of -1 and 0", inst.Blt, last, 0, true},
		{"Blt of 0 and -1", inst.Blt, 0, last, false},
		{"Blt of equals", inst.Blt, last, last, false},
		{"Bge of -2^31 and 2^31 - 1", inst.Bge, half, half - 1, false},
		{"Bge of 2^31 - 1 and -2^31", inst.Bge, half - 1, half, true},
		{"Bge of equals", inst.Bge, half, half, true},
		{"Bltu of 0 and 2^32 - 1", inst.Bltu, 0, last, true},
		{"Bltu of 2^32 - 1 and 0", inst.Bltu, last, 0, false},
		{"Bltu of equals", inst.Bltu, 0, 0, false},
		{"Bgeu of 2^31 and 2^31 - 1", inst.Bgeu, half, half - 1, true},
		{"Bgeu of 2^31 - 1 and 2^31", inst.Bgeu, half - 1, half, false},
		{"Bgeu of equals", inst.Bgeu, last, last, true},
	} {
		if got, ok := alu.Goes(x.op, x.a, x.b); got != x.want || !ok {
			t.Errorf("%s: %v, %v; want %v, true", x.name, got, ok, x.want)
		}
	}
}

func TestGoesAgainstModel(t *testing.T) {
	list := branches()
	pairs(t, func(a, b uint32) {
		x, y := operandOf(a), operandOf(b)
		for _, l := range list {
			if got, ok := alu.Goes(l.op, a, b); got != l.goes(x, y) || !ok {
				t.Fatalf("%s of %X and %X: %v, %v", l.name, a, b, got, ok)
			}
		}
	})
}

func TestGoesOtherOperations(t *testing.T) {
	var known []int
	for _, l := range branches() {
		known = append(known, l.op)
	}
	for _, op := range every() {
		for _, x := range [][2]uint32{{0, 0}, {1, 2}, {2, 1}, {1 << 31, 1}} {
			got, ok := alu.Goes(op, x[0], x[1])
			if ok != slices.Contains(known, op) || got && !ok {
				t.Fatalf("operation %d of %X and %X: %v, %v", op, x[0], x[1], got, ok)
			}
		}
	}
}
