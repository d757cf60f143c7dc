package text_test

import (
	"math"
	"math/rand"
	"testing"

	"portico/api"
	"portico/inst"
	"portico/text"
)

// Lines, instructions and words written down by hand, apart from the model.
func TestKnownLines(t *testing.T) {
	for _, k := range []struct {
		line string
		w    uint32
		x    api.Inst
	}{
		{"lui a0, 524289", 0x80001537, api.Inst{Op: inst.Lui, Rd: 10, Imm: 0x80001000}},
		{"lui zero, 0", 0x00000037, api.Inst{Op: inst.Lui}},
		{"lui t6, 1048575", 0xFFFFFFB7, api.Inst{Op: inst.Lui, Rd: 31, Imm: 0xFFFFF000}},
		{"auipc t0, 1", 0x00001297, api.Inst{Op: inst.Auipc, Rd: 5, Imm: 0x1000}},
		{"jal ra, 2048", 0x001000EF, api.Inst{Op: inst.Jal, Rd: 1, Imm: 2048}},
		{"jal zero, -4", 0xFFDFF06F, api.Inst{Op: inst.Jal, Imm: 0xFFFFFFFC}},
		{"jal zero, -1048576", 0x8000006F, api.Inst{Op: inst.Jal, Imm: 0xFFF00000}},
		{"jalr zero, 0(ra)", 0x00008067, api.Inst{Op: inst.Jalr, Rs1: 1}},
		{"jalr ra, -2048(s0)", 0x800400E7, api.Inst{Op: inst.Jalr, Rd: 1, Rs1: 8, Imm: 0xFFFFF800}},
		{"bne a0, zero, -4", 0xFE051EE3, api.Inst{Op: inst.Bne, Rs1: 10, Imm: 0xFFFFFFFC}},
		{"bltu a1, a2, 16", 0x00C5E863, api.Inst{Op: inst.Bltu, Rs1: 11, Rs2: 12, Imm: 16}},
		{"lw t0, 4(sp)", 0x00412283, api.Inst{Op: inst.Lw, Rd: 5, Rs1: 2, Imm: 4}},
		{"lbu a0, -1(a1)", 0xFFF5C503, api.Inst{Op: inst.Lbu, Rd: 10, Rs1: 11, Imm: greatest}},
		{"sw ra, 12(sp)", 0x00112623, api.Inst{Op: inst.Sw, Rs1: 2, Rs2: 1, Imm: 12}},
		{"sb t6, -2048(t5)", 0x81FF0023, api.Inst{Op: inst.Sb, Rs1: 30, Rs2: 31, Imm: 0xFFFFF800}},
		{"addi a0, a0, -1", 0xFFF50513, api.Inst{Op: inst.Addi, Rd: 10, Rs1: 10, Imm: greatest}},
		{"sltiu s1, s2, 2047", 0x7FF93493, api.Inst{Op: inst.Sltiu, Rd: 9, Rs1: 18, Imm: 2047}},
		{"slli a0, a1, 31", 0x01F59513, api.Inst{Op: inst.Slli, Rd: 10, Rs1: 11, Imm: 31}},
		{"srai a0, a0, 3", 0x40355513, api.Inst{Op: inst.Srai, Rd: 10, Rs1: 10, Imm: 3}},
		{"sub a0, a0, a1", 0x40B50533, api.Inst{Op: inst.Sub, Rd: 10, Rs1: 10, Rs2: 11}},
		{"remu s11, t3, t4", 0x03DE7DB3, api.Inst{Op: inst.Remu, Rd: 27, Rs1: 28, Rs2: 29}},
		{"fence", 0x0000000F, api.Inst{Op: inst.Fence}},
		{"ecall", 0x00000073, api.Inst{Op: inst.Ecall}},
		{"ebreak", 0x00100073, api.Inst{Op: inst.Ebreak}},
		{"mret", 0x30200073, api.Inst{Op: inst.Mret}},
		{"wfi", 0x10500073, api.Inst{Op: inst.Wfi}},
		{"csrrw zero, 773, t0", 0x30529073, api.Inst{Op: inst.Csrrw, Rs1: 5, Imm: 0x305}},
		{"csrrs a0, 4095, zero", 0xFFF02573, api.Inst{Op: inst.Csrrs, Rd: 10, Imm: 0xFFF}},
		{"csrrci zero, 768, 8", 0x30047073, api.Inst{Op: inst.Csrrci, Rs1: 8, Imm: 0x300}},
		{"csrrwi t6, 2048, 31", 0x800FDFF3, api.Inst{Op: inst.Csrrwi, Rd: 31, Rs1: 31, Imm: 0x800}},
	} {
		if x := inst.Decode(k.w); x != k.x {
			t.Errorf("%s: layer 11 decodes %08X as %+v", k.line, k.w, x)
		}
		if got := text.Show(k.x); got != k.line {
			t.Errorf("Show(%+v) is %q, want %q", k.x, got, k.line)
		}
		if got, e := text.Read(k.line); got != k.x || e != api.OK {
			t.Errorf("Read(%q) is %+v, %d, want %+v", k.line, got, e, k.x)
		}
		if got := shown(k.x); got != k.line {
			t.Errorf("the model shows %+v as %q, want %q", k.x, got, k.line)
		}
	}
}

// immediates returns numbers at and around all bounds of immediates.
func immediates() []uint32 {
	l := []uint32{0x12345000, 0x80001000, 0xABCDE000, 0x7FFFF000}
	for _, n := range []uint32{0, 5, 31, 32, 1 << 11, 1 << 12, 1 << 13, 1 << 20, 1 << 21, 1 << 31} {
		for d := range uint32(5) {
			l = append(l, n+d-2, d-2-n)
		}
	}
	return l
}

// mustShow holds Show against the model, and reads what can be shown (P17.2).
func mustShow(t *testing.T, x api.Inst) {
	t.Helper()
	want := shown(x)
	got := text.Show(x)
	if got != want {
		t.Fatalf("Show(%+v) is %q, want %q", x, got, want)
	}
	if got == "" {
		return
	}
	if back, e := text.Read(got); back != x || e != api.OK {
		t.Fatalf("Read(%q) is %+v, %d, want %+v", got, back, e, x)
	}
}

// Each operation with all registers and with immediates within its bounds and
// beyond them.
func TestShow(t *testing.T) {
	for _, o := range modelList {
		for _, imm := range immediates() {
			for r := range 34 {
				mustShow(t, api.Inst{Op: o.op, Rd: r - 1, Imm: imm})
				mustShow(t, api.Inst{Op: o.op, Rs1: r - 1, Imm: imm})
				mustShow(t, api.Inst{Op: o.op, Rs2: r - 1, Imm: imm})
				mustShow(t, api.Inst{Op: o.op, Rd: r - 1, Rs1: 32 - r, Imm: imm})
				mustShow(t, api.Inst{Op: o.op, Rs1: r - 1, Rs2: 32 - r, Imm: imm})
				mustShow(t, api.Inst{Op: o.op, Rd: 7, Rs1: 32 - r, Rs2: r - 1, Imm: imm})
			}
		}
	}
}

// Every immediate of 13 bits, and some of all others.
func TestShowImmediates(t *testing.T) {
	for _, o := range modelList {
		for n := range uint32(1 << 14) {
			mustShow(t, api.Inst{Op: o.op, Imm: n - 1<<13})
		}
		for n := uint32(0); n < 1<<21; n += 389 {
			mustShow(t, api.Inst{Op: o.op, Imm: n*2 - 1<<21})
			mustShow(t, api.Inst{Op: o.op, Imm: n << 12})
		}
	}
}

func TestShowWhatCannotBeEncoded(t *testing.T) {
	for _, x := range []api.Inst{
		{},
		{Rd: 1},
		{Op: inst.Ops},
		{Op: -1},
		{Op: math.MaxInt},
		{Op: math.MinInt},
		{Op: 1<<32 + inst.Ecall},
		{Op: inst.Ecall, Rd: 1},
		{Op: inst.Ecall, Imm: 1},
		{Op: inst.Fence, Imm: 0xFF0},
		{Op: inst.Lui, Imm: 1},
		{Op: inst.Lui, Imm: 0x80000FFF},
		{Op: inst.Lui, Rs1: 1},
		{Op: inst.Jal, Imm: 1},
		{Op: inst.Jal, Imm: 1 << 20},
		{Op: inst.Jal, Imm: 0xFFEFFFFE},
		{Op: inst.Beq, Imm: 3},
		{Op: inst.Beq, Imm: 4096},
		{Op: inst.Beq, Rd: 1},
		{Op: inst.Addi, Imm: 2048},
		{Op: inst.Addi, Imm: 0xFFFFF7FF},
		{Op: inst.Addi, Rs2: 1},
		{Op: inst.Sw, Imm: 2048},
		{Op: inst.Sw, Rd: 1},
		{Op: inst.Slli, Imm: 32},
		{Op: inst.Slli, Imm: greatest},
		{Op: inst.Add, Imm: 1},
		{Op: inst.Add, Rd: 32},
		{Op: inst.Add, Rd: -1},
		{Op: inst.Add, Rs1: math.MaxInt},
		{Op: inst.Add, Rs2: math.MinInt},
		{Op: inst.Add, Rd: 1 << 32},
		{Op: inst.Csrrw, Imm: 4096},
		{Op: inst.Csrrw, Rs2: 1},
		{Op: inst.Csrrwi, Rs1: 32},
		{Op: inst.Csrrwi, Rs1: -1},
		{Op: inst.Csrrwi, Imm: greatest},
	} {
		if got := text.Show(x); got != "" {
			t.Errorf("Show(%+v) is %q", x, got)
		}
	}
}

// anyOf returns some instruction of o that can be encoded.
func anyOf(r *rand.Rand, o operation) api.Inst {
	x := api.Inst{Op: o.op}
	for _, letter := range o.operands {
		switch letter {
		case 'D':
			x.Rd = r.Intn(32)
		case 'S', 'n', 'b':
			x.Rs1 = r.Intn(32)
		case 'T':
			x.Rs2 = r.Intn(32)
		}
	}
	x.Imm = uint32(o.least + o.multipleOf*r.Int63n((o.most-o.least)/o.multipleOf+1))
	return x
}

// The line of a word has the word's instruction, and so the word.
func TestRoundTripOfWords(t *testing.T) {
	r := rand.New(rand.NewSource(2))
	for _, o := range modelList {
		for range 3000 {
			x := anyOf(r, o)
			w, ok := inst.Encode(x)
			if !ok || inst.Decode(w) != x {
				t.Fatalf("layer 11 encodes %+v as %08X", x, w)
			}
			mustShow(t, x)
			back, _ := text.Read(text.Show(inst.Decode(w)))
			if again, ok := inst.Encode(back); again != w || !ok {
				t.Fatalf("%08X comes back as %08X", w, again)
			}
		}
	}
	shown := 0
	for range 100000 {
		x := inst.Decode(r.Uint32())
		mustShow(t, x)
		if x.Op != inst.None {
			shown++
		}
	}
	if shown < 1000 {
		t.Errorf("only %d words that encode an instruction", shown)
	}
}

// A Fence is shown alike whatever its word has in its fields.
func TestFence(t *testing.T) {
	for _, w := range []uint32{0x0000000F, 0x0FF0000F, 0x8330000F, 0xFFFF8F8F} {
		if got := text.Show(inst.Decode(w)); got != "fence" {
			t.Errorf("%08X is shown as %q", w, got)
		}
	}
}
