package alu_test

import (
	"testing"

	"portico/alu"
	"portico/inst"
)

// An access is a load or a store, its bytes, and whether a load of them is
// sign-extended.
type access struct {
	bytes  int
	load   bool
	signed bool
}

// accesses is the chapter's list.
func accesses() map[int]access {
	return map[int]access{
		inst.Lb:  {bytes: 1, load: true, signed: true},
		inst.Lh:  {bytes: 2, load: true, signed: true},
		inst.Lw:  {bytes: 4, load: true},
		inst.Lbu: {bytes: 1, load: true},
		inst.Lhu: {bytes: 2, load: true},
		inst.Sb:  {bytes: 1},
		inst.Sh:  {bytes: 2},
		inst.Sw:  {bytes: 4},
	}
}

func TestWidth(t *testing.T) {
	list := accesses()
	for _, op := range every() {
		if got := alu.Width(op); got != list[op].bytes {
			t.Errorf("operation %d: %d bytes, want %d", op, got, list[op].bytes)
		}
	}
}

func TestWidenExamples(t *testing.T) {
	for _, x := range []struct {
		name    string
		op      int
		x, want uint32
	}{
		{"Lb, positive", inst.Lb, 0xFFFFFF7F, 0x7F},
		{"Lb, negative", inst.Lb, 0x80, 0xFFFFFF80},
		{"Lh, positive", inst.Lh, 0xFFFF7FFF, 0x7FFF},
		{"Lh, negative", inst.Lh, 0x8000, 0xFFFF8000},
		{"Lbu", inst.Lbu, 0xFFFFFF80, 0x80},
		{"Lhu", inst.Lhu, 0xFFFF8000, 0x8000},
		{"Lw", inst.Lw, 0x89ABCDEF, 0x89ABCDEF},
		{"Sb", inst.Sb, 0x89ABCDEF, 0x89ABCDEF},
		{"Sh", inst.Sh, 0x89ABCDEF, 0x89ABCDEF},
		{"no operation", -1, 0x89ABCDEF, 0x89ABCDEF},
	} {
		if got := alu.Widen(x.op, x.x); got != x.want {
			t.Errorf("%s: %X, want %X", x.name, got, x.want)
		}
	}
}

// widened extends the lowest bytes of x bit by bit.
func widened(how access, x uint32) uint32 {
	if !how.load || how.bytes == 4 {
		return x
	}
	top := 8*how.bytes - 1
	var sum uint32
	for i := range 32 {
		at := min(i, top)
		if i <= top || how.signed {
			sum += (x >> at) % 2 << i
		}
	}
	return sum
}

func TestWidenAgainstModel(t *testing.T) {
	list := accesses()
	for _, op := range every() {
		for _, x := range edges() {
			if got, want := alu.Widen(op, x), widened(list[op], x); got != want {
				t.Fatalf("operation %d, %X: %X, want %X", op, x, got, want)
			}
		}
	}
}

// Every byte and every pair of bytes is widened, below ones and below zeros.
func TestWidenEveryValue(t *testing.T) {
	list := accesses()
	for op, how := range list {
		for x := range uint32(1 << 16) {
			for _, x := range []uint32{x, x | 0xFFFF0000} {
				if got, want := alu.Widen(op, x), widened(how, x); got != want {
					t.Fatalf("operation %d, %X: %X, want %X", op, x, got, want)
				}
			}
		}
	}
}
