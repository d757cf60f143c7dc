package inst_test

import (
	"math/rand"
	"testing"

	"portico/inst"
)

// A pair is a format's two functions.
type pair struct {
	letter byte
	get    func(w uint32) uint32
	set    func(w, x uint32) uint32
}

func pairs() []pair {
	return []pair{
		{'I', inst.ImmI, inst.SetI},
		{'S', inst.ImmS, inst.SetS},
		{'B', inst.ImmB, inst.SetB},
		{'U', inst.ImmU, inst.SetU},
		{'J', inst.ImmJ, inst.SetJ},
	}
}

func TestImmediatesOfKnownWords(t *testing.T) {
	for _, k := range []struct {
		name      string
		get       func(w uint32) uint32
		w, number uint32
	}{
		{"addi ra, zero, 1", inst.ImmI, 0x00100093, 1},
		{"addi sp, sp, -16", inst.ImmI, 0xFF010113, 0xFFFFFFF0},
		{"lw a0, 2047(zero)", inst.ImmI, 0x7FF02503, 2047},
		{"lw a0, -2048(zero)", inst.ImmI, 0x80002503, 0xFFFFF800},
		{"sw ra, 12(sp)", inst.ImmS, 0x00112623, 12},
		{"sw a0, -20(s0)", inst.ImmS, 0xFEA42623, 0xFFFFFFEC},
		{"bnez a0, back by 4", inst.ImmB, 0xFE051EE3, 0xFFFFFFFC},
		{"beq a0, a1, on by 2048", inst.ImmB, 0x00B500E3, 2048},
		{"lui a0, 12345", inst.ImmU, 0x12345537, 0x12345000},
		{"auipc a0, FFFFF", inst.ImmU, 0xFFFFF517, 0xFFFFF000},
		{"jal ra, on by 2048", inst.ImmJ, 0x001000EF, 2048},
		{"j, back by 8", inst.ImmJ, 0xFF9FF06F, 0xFFFFFFF8},
		{"j, on by 4096", inst.ImmJ, 0x0000106F, 4096},
	} {
		if got := k.get(k.w); got != k.number {
			t.Errorf("%s: got %X, want %X", k.name, got, k.number)
		}
	}
}

// Each bit of an immediate, in the words of the chapter: where it comes from.
func TestEachBitOfImmediates(t *testing.T) {
	for _, p := range pairs() {
		form := layoutOf(p.letter)
		places := positions(form.bits)
		for i := range 32 {
			for _, w := range []uint32{power(i), greatest - power(i)} {
				if got, want := p.get(w), slowImmediate(w, places, form.signed); got != want {
					t.Errorf("format %c of %08X: got %X, want %X", p.letter, w, got, want)
				}
			}
		}
		if p.get(0) != 0 {
			t.Errorf("format %c of 0 is %X", p.letter, p.get(0))
		}
	}
}

func TestImmediates(t *testing.T) {
	r := rand.New(rand.NewSource(1))
	words := edges()
	for range 20000 {
		words = append(words, r.Uint32())
	}
	for _, p := range pairs() {
		form := layoutOf(p.letter)
		places := positions(form.bits)
		for _, w := range words {
			if got, want := p.get(w), slowImmediate(w, places, form.signed); got != want {
				t.Fatalf("format %c of %08X: got %X, want %X", p.letter, w, got, want)
			}
		}
	}
}

func TestSetOfKnownWords(t *testing.T) {
	for _, k := range []struct {
		name       string
		set        func(w, x uint32) uint32
		w, x, want uint32
	}{
		{"addi ra, zero, 1", inst.SetI, 0x00000093, 1, 0x00100093},
		{"addi sp, sp, -16 instead of 16", inst.SetI, 0x01010113, 0xFFFFFFF0, 0xFF010113},
		{"sw ra, 12(sp) instead of -4", inst.SetS, 0xFE112E23, 12, 0x00112623},
		{"bnez a0, back by 4", inst.SetB, 0x00051063, 0xFFFFFFFC, 0xFE051EE3},
		{"lui a0, 12345 instead of FFFFF", inst.SetU, 0xFFFFF537, 0x12345FFF, 0x12345537},
		{"jal ra, on by 2048", inst.SetJ, 0x000000EF, 2048, 0x001000EF},
		{"j, back by 8 instead of on by 4096", inst.SetJ, 0x0000106F, 0xFFFFFFF8, 0xFF9FF06F},
	} {
		if got := k.set(k.w, k.x); got != k.want {
			t.Errorf("%s: got %08X, want %08X", k.name, got, k.want)
		}
	}
}

// Only the immediate's bits change, and only x's bits that are the immediate's
// count.
func TestEachBitOfSet(t *testing.T) {
	for _, p := range pairs() {
		places := positions(layoutOf(p.letter).bits)
		for i := range 32 {
			for j := range 32 {
				for _, w := range []uint32{0, greatest, power(i), greatest - power(i)} {
					for _, x := range []uint32{0, greatest, power(j), greatest - power(j)} {
						if got, want := p.set(w, x), slowSet(w, x, places); got != want {
							t.Fatalf("format %c, %08X in %08X: got %08X, want %08X", p.letter, x, w, got, want)
						}
					}
				}
			}
		}
	}
}

func TestSet(t *testing.T) {
	r := rand.New(rand.NewSource(2))
	numbers := edges()
	for range 20000 {
		numbers = append(numbers, r.Uint32())
	}
	for _, p := range pairs() {
		places := positions(layoutOf(p.letter).bits)
		for _, x := range numbers {
			w := r.Uint32()
			if got, want := p.set(w, x), slowSet(w, x, places); got != want {
				t.Fatalf("format %c, %08X in %08X: got %08X, want %08X", p.letter, x, w, got, want)
			}
		}
	}
}

// Every immediate that fits is found again in any word, and a word's own
// immediate changes nothing.
func TestSetThenImmediate(t *testing.T) {
	r := rand.New(rand.NewSource(3))
	for _, p := range pairs() {
		step, least, n := uint32(1), uint32(0xFFFFF800), 4096
		switch p.letter {
		case 'B':
			step, least = 2, 0xFFFFF000
		case 'J':
			step, least, n = 2, 0xFFF00000, 1048576
		case 'U':
			step, least, n = 4096, 0, 1048576
		}
		for i := range n {
			w, x := r.Uint32(), least+uint32(i)*step
			if got := p.get(p.set(w, x)); got != x {
				t.Fatalf("format %c: set %X in %08X, got %X", p.letter, x, w, got)
			}
			if got := p.set(w, p.get(w)); got != w {
				t.Fatalf("format %c: %08X with its own immediate is %08X", p.letter, w, got)
			}
		}
	}
}
