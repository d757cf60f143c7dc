package inst_test

import (
	"math"
	"math/rand"
	"testing"

	"portico/api"
	"portico/inst"
)

// The constants in the chapter's order.
func numbered() []int {
	return []int{
		inst.Lui, inst.Auipc, inst.Jal, inst.Jalr, inst.Beq, inst.Bne, inst.Blt, inst.Bge, inst.Bltu, inst.Bgeu,
		inst.Lb, inst.Lh, inst.Lw, inst.Lbu, inst.Lhu, inst.Sb, inst.Sh, inst.Sw,
		inst.Addi, inst.Slti, inst.Sltiu, inst.Xori, inst.Ori, inst.Andi, inst.Slli, inst.Srli, inst.Srai,
		inst.Add, inst.Sub, inst.Sll, inst.Slt, inst.Sltu, inst.Xor, inst.Srl, inst.Sra, inst.Or, inst.And,
		inst.Mul, inst.Mulh, inst.Mulhsu, inst.Mulhu, inst.Div, inst.Divu, inst.Rem, inst.Remu,
		inst.Fence, inst.Ecall, inst.Ebreak, inst.Mret, inst.Wfi,
		inst.Csrrw, inst.Csrrs, inst.Csrrc, inst.Csrrwi, inst.Csrrsi, inst.Csrrci,
	}
}

func TestNumbers(t *testing.T) {
	l := numbered()
	for i, op := range l {
		if op != i+1 {
			t.Errorf("operation %d of the chapter has the number %d", i+1, op)
		}
	}
	if n := len(operations()); len(l) != n || inst.Ops != n+1 || inst.None != 0 {
		t.Errorf("%d constants for %d operations; Ops is %d and None %d", len(l), n, inst.Ops, inst.None)
	}
	forms := []int{
		inst.FormU, inst.FormJ, inst.FormI, inst.FormB, inst.FormS,
		inst.FormR, inst.FormT, inst.FormN, inst.FormC, inst.FormZ,
	}
	for i, form := range forms {
		if form != i {
			t.Errorf("Form%c is %d, want %d", letters[i], form, i)
		}
	}
}

func TestForm(t *testing.T) {
	for _, o := range operations() {
		form := inst.Form(o.op)
		if form < 0 || form >= len(letters) || letters[form] != o.letter {
			t.Errorf("%s: format %d, want that of %c", o.name, form, o.letter)
		}
	}
	for _, op := range others() {
		if form := inst.Form(op); form != -1 {
			t.Errorf("operation %d has the format %d", op, form)
		}
	}
}

// others returns numbers that aren't operations, also some that would be one in
// fewer bits.
func others() []int {
	l := []int{inst.None, inst.Ops, inst.Ops + 1, inst.Ops + inst.Addi, 64, 128 + inst.Addi, math.MaxInt, math.MinInt}
	for i := range 60 {
		l = append(l, -i-1)
	}
	for _, bits := range []int{8, 16, 32, 63} {
		l = append(l, 1<<bits+inst.Addi, 1<<bits+inst.Ecall, -1<<bits+inst.Addi)
	}
	return l
}

// Words and instructions written down by hand, apart from the model.
func TestKnownWords(t *testing.T) {
	for _, k := range []struct {
		line string
		w    uint32
		x    api.Inst
	}{
		{"addi ra, zero, 1", 0x00100093, api.Inst{Op: inst.Addi, Rd: 1, Imm: 1}},
		{"addi sp, zero, 5", 0x00500113, api.Inst{Op: inst.Addi, Rd: 2, Imm: 5}},
		{"lui a0, 0x80001", 0x80001537, api.Inst{Op: inst.Lui, Rd: 10, Imm: 0x80001000}},
		{"auipc t0, 0", 0x00000297, api.Inst{Op: inst.Auipc, Rd: 5}},
		{"jal ra, 2048", 0x001000EF, api.Inst{Op: inst.Jal, Rd: 1, Imm: 2048}},
		{"ret", 0x00008067, api.Inst{Op: inst.Jalr, Rs1: 1}},
		{"bne a0, zero, -4", 0xFE051EE3, api.Inst{Op: inst.Bne, Rs1: 10, Imm: 0xFFFFFFFC}},
		{"bltu a1, a2, 16", 0x00C5E863, api.Inst{Op: inst.Bltu, Rs1: 11, Rs2: 12, Imm: 16}},
		{"lw t0, 4(sp)", 0x00412283, api.Inst{Op: inst.Lw, Rd: 5, Rs1: 2, Imm: 4}},
		{"lbu a0, -1(a1)", 0xFFF5C503, api.Inst{Op: inst.Lbu, Rd: 10, Rs1: 11, Imm: greatest}},
		{"sw ra, 12(sp)", 0x00112623, api.Inst{Op: inst.Sw, Rs1: 2, Rs2: 1, Imm: 12}},
		{"sb t6, -2048(t5)", 0x81FF0023, api.Inst{Op: inst.Sb, Rs1: 30, Rs2: 31, Imm: 0xFFFFF800}},
		{"slli a0, a1, 31", 0x01F59513, api.Inst{Op: inst.Slli, Rd: 10, Rs1: 11, Imm: 31}},
		{"srai a0, a0, 3", 0x40355513, api.Inst{Op: inst.Srai, Rd: 10, Rs1: 10, Imm: 3}},
		{"add a1, a1, a0", 0x00A585B3, api.Inst{Op: inst.Add, Rd: 11, Rs1: 11, Rs2: 10}},
		{"sub a0, a0, a1", 0x40B50533, api.Inst{Op: inst.Sub, Rd: 10, Rs1: 10, Rs2: 11}},
		{"mul a0, a0, a1", 0x02B50533, api.Inst{Op: inst.Mul, Rd: 10, Rs1: 10, Rs2: 11}},
		{"remu s11, t3, t4", 0x03DE7DB3, api.Inst{Op: inst.Remu, Rd: 27, Rs1: 28, Rs2: 29}},
		{"ecall", 0x00000073, api.Inst{Op: inst.Ecall}},
		{"ebreak", 0x00100073, api.Inst{Op: inst.Ebreak}},
		{"mret", 0x30200073, api.Inst{Op: inst.Mret}},
		{"wfi", 0x10500073, api.Inst{Op: inst.Wfi}},
		{"csrrw zero, 0x305, t0", 0x30529073, api.Inst{Op: inst.Csrrw, Rs1: 5, Imm: 0x305}},
		{"csrrs a0, 0x342, zero", 0x34202573, api.Inst{Op: inst.Csrrs, Rd: 10, Imm: 0x342}},
		{"csrrs a0, 0xC00, zero", 0xC0002573, api.Inst{Op: inst.Csrrs, Rd: 10, Imm: 0xC00}},
		{"csrrci zero, 0x300, 8", 0x30047073, api.Inst{Op: inst.Csrrci, Rs1: 8, Imm: 0x300}},
	} {
		if got := inst.Decode(k.w); got != k.x {
			t.Errorf("%s: Decode(%08X) is %+v", k.line, k.w, got)
		}
		if got, ok := inst.Encode(k.x); got != k.w || !ok {
			t.Errorf("%s: Encode returns %08X, %v", k.line, got, ok)
		}
	}
}

func TestWordsOfNoInstruction(t *testing.T) {
	for _, w := range []uint32{
		0, greatest, 1, 0x0000007F, // no such opcode
		0x00100090, 0x00100091, 0x00100092, // addi's with other lowest bits
		0x00002063, 0x00003063, // no such branch
		0x00003003, 0x00006003, 0x00007003, // no such load
		0x00003023, 0x00004023, // no such store
		0x00001067, 0x00007067, // not jalr
		0x02001013, 0x40001013, 0x02005013, 0x60005013, 0xC0005013, // shifts with another word
		0x04000033, 0x40001033, 0x42000033, 0x80000033, // no such arithmetic
		0x00004073,                                     // no such access
		0x00200073, 0x10200073, 0x7B200073, 0x12000073, // uret, sret, dret, sfence.vma
		0x000000F3, 0x00008073, 0x30208073, 0x105000F3, // with a register
		0x0000100F, 0x0000200F, // fence.i
	} {
		if x := inst.Decode(w); x != (api.Inst{}) {
			t.Errorf("Decode(%08X) is %+v", w, x)
		}
	}
}

// The 17 highest bits and Rd of a Fence may be anything, and are lost.
func TestFence(t *testing.T) {
	fence := api.Inst{Op: inst.Fence}
	for i := range 32 {
		want := api.Inst{}
		if i >= 15 || i >= 7 && i < 12 {
			want = fence
		}
		for _, w := range []uint32{0x0000000F, 0x0FF0000F, 0x8330000F, 0xFFFF8F8F} {
			if x := inst.Decode(w); x != fence {
				t.Errorf("Decode(%08X) is %+v", w, x)
			}
			if x := inst.Decode(w ^ power(i)); x != want {
				t.Errorf("Decode(%08X) is %+v", w^power(i), x)
			}
		}
	}
	if w, ok := inst.Encode(fence); w != 0x0000000F || !ok {
		t.Errorf("Encode returns %08X, %v", w, ok)
	}
}

// Each operation with no field, one bit or all bits of its fields set, and then
// with any one bit changed.
func TestEachBitOfWords(t *testing.T) {
	l := operations()
	for _, o := range l {
		words := []uint32{o.word, o.word | o.free}
		for i := range 32 {
			words = append(words, o.word|o.free&power(i))
		}
		for _, w := range words {
			mustDecode(t, w, l)
			if x := inst.Decode(w); x.Op != o.op {
				t.Fatalf("Decode(%08X) is %+v, want %s", w, x, o.name)
			}
			for i := range 32 {
				mustDecode(t, w^power(i), l)
			}
		}
	}
}

// All words whose registers are 0, by which every operation differs from others.
func TestAllOperationsBits(t *testing.T) {
	if testing.Short() {
		t.Skip("it takes seconds")
	}
	l := operations()
	for high := range uint32(4096) {
		for low := range uint32(1024) {
			mustDecode(t, high<<20|low>>7<<12|low&127, l)
		}
	}
}

func TestRandomWords(t *testing.T) {
	l := operations()
	r := rand.New(rand.NewSource(4))
	counts := map[int]int{}
	for range 400000 {
		w := randomWord(r, l)
		mustDecode(t, w, l)
		counts[inst.Decode(w).Op]++
	}
	for op := range inst.Ops {
		if counts[op] < 500 {
			t.Errorf("operation %d was met only %d times", op, counts[op])
		}
	}
}

// Every immediate around the ends of what fits, in every operation.
func TestEncodeImmediates(t *testing.T) {
	l := operations()
	for _, o := range l {
		fitting := 0
		for _, imm := range edges() {
			x := api.Inst{Op: o.op, Imm: imm}
			if mustEncode(t, x, l) {
				fitting++
			}
		}
		if fitting == 0 {
			t.Errorf("%s: no immediate fits", o.name)
		}
	}
}

func TestEndsOfImmediates(t *testing.T) {
	for _, k := range []struct {
		op    int
		yes   []uint32
		never []uint32
	}{
		{inst.Addi, []uint32{0, 1, 2047, 0xFFFFF800, greatest}, []uint32{2048, 4095, 0xFFFFF7FF, 0x80000000, 0x7FFFFFFF}},
		{inst.Sw, []uint32{0, 1, 2047, 0xFFFFF800, greatest}, []uint32{2048, 4095, 0xFFFFF7FF, 0x80000000, 0x7FFFFFFF}},
		{inst.Beq, []uint32{0, 2, 4094, 0xFFFFF000, 0xFFFFFFFE}, []uint32{1, 4095, 4096, 8190, 0xFFFFEFFE, 0xFFFFF001, greatest}},
		{inst.Jal, []uint32{0, 2, 0xFFFFE, 0xFFF00000, 0xFFFFFFFE}, []uint32{1, 0xFFFFF, 0x100000, 0x1FFFFE, 0xFFEFFFFE, 0xFFF00001, greatest}},
		{inst.Lui, []uint32{0, 0x1000, 0x80000000, 0xFFFFF000}, []uint32{1, 0x800, 0xFFF, 0x80000800, greatest}},
		{inst.Srai, []uint32{0, 1, 31}, []uint32{32, 63, 0x400, 0x41F, greatest, 0xFFFFFFE0}},
		{inst.Csrrw, []uint32{0, 1, 0x800, 0xC00, 4095}, []uint32{4096, 8191, 0xFFFFF800, greatest}},
		{inst.Csrrwi, []uint32{0, 1, 0x800, 0xC00, 4095}, []uint32{4096, 8191, 0xFFFFF800, greatest}},
		{inst.Add, []uint32{0}, []uint32{1, 0x1000, 0x80000000, greatest}},
		{inst.Fence, []uint32{0}, []uint32{1, 0x0FF, 0x80000000, greatest}},
		{inst.Ecall, []uint32{0}, []uint32{1, 0x302, 0x80000000, greatest}},
	} {
		for _, imm := range k.yes {
			if _, ok := inst.Encode(api.Inst{Op: k.op, Imm: imm}); !ok {
				t.Errorf("operation %d, immediate %X: false", k.op, imm)
			}
		}
		for _, imm := range k.never {
			if w, ok := inst.Encode(api.Inst{Op: k.op, Imm: imm}); ok {
				t.Errorf("operation %d, immediate %X: %08X", k.op, imm, w)
			}
		}
	}
}

// Every register of every operation, in its range and outside, and registers
// that the format doesn't use.
func TestEncodeRegisters(t *testing.T) {
	l := operations()
	numbers := []int{-1, -2, -31, -32, 32, 33, 63, 64, 255, 256, math.MaxInt32, math.MinInt32, math.MaxInt, math.MinInt}
	for i := range 32 {
		numbers = append(numbers, i)
	}
	for _, bits := range []int{8, 16, 32, 62} {
		numbers = append(numbers, 1<<bits, 1<<bits+7)
	}
	for _, o := range l {
		for _, n := range numbers {
			fits := n >= 0 && n < 32
			for _, k := range []struct {
				x    api.Inst
				used bool
			}{
				{api.Inst{Op: o.op, Rd: n}, o.layout.rd},
				{api.Inst{Op: o.op, Rs1: n}, o.layout.rs1},
				{api.Inst{Op: o.op, Rs2: n}, o.layout.rs2},
			} {
				if got := mustEncode(t, k.x, l); got != (n == 0 || k.used && fits) {
					t.Errorf("%s: %+v: %v", o.name, k.x, got)
				}
			}
		}
	}
}

func TestEncodeNoOperation(t *testing.T) {
	for _, op := range others() {
		for _, x := range []api.Inst{{Op: op}, {Op: op, Rd: 1, Rs1: 2, Imm: 3}} {
			if w, ok := inst.Encode(x); ok {
				t.Errorf("Encode(%+v) returns %08X", x, w)
			}
		}
	}
}

func TestEveryShiftAndRegisterNumber(t *testing.T) {
	l := operations()
	for _, o := range l {
		for imm := range uint32(4096) {
			mustEncode(t, api.Inst{Op: o.op, Imm: imm}, l)
			mustEncode(t, api.Inst{Op: o.op, Imm: -imm}, l)
		}
	}
}

func TestEveryJumpAndUpperNumber(t *testing.T) {
	l := []operation{named(t, "Jal"), named(t, "Lui"), named(t, "Auipc")}
	for i := range uint32(1048576) {
		for _, x := range []api.Inst{
			{Op: inst.Jal, Rd: int(i % 32), Imm: 2*i - 1048576},
			{Op: inst.Lui, Rd: int(i % 32), Imm: 4096 * i},
			{Op: inst.Auipc, Rd: int(i % 32), Imm: 4096 * i},
		} {
			if !mustEncode(t, x, l) {
				t.Fatalf("%+v can't be encoded", x)
			}
		}
	}
}

func TestRandomInstructions(t *testing.T) {
	l := operations()
	r := rand.New(rand.NewSource(5))
	numbers := edges()
	yes, no := map[int]int{}, map[int]int{}
	for range 400000 {
		o := l[r.Intn(len(l))]
		x := slowDecode(o.word|r.Uint32()&o.free, l)
		switch r.Intn(8) {
		case 0:
			x.Rd = r.Intn(34) - 1
		case 1:
			x.Rs1 = r.Intn(34) - 1
		case 2:
			x.Rs2 = r.Intn(34) - 1
		case 3:
			x.Imm = numbers[r.Intn(len(numbers))]
		}
		if mustEncode(t, x, l) {
			yes[o.op]++
		} else {
			no[o.op]++
		}
	}
	for _, o := range l {
		if yes[o.op] < 500 || no[o.op] < 50 {
			t.Errorf("%s: encoded %d times, refused %d times", o.name, yes[o.op], no[o.op])
		}
	}
}

// A call's answer depends on its argument alone.
func TestSameAnswerAgain(t *testing.T) {
	l := operations()
	r := rand.New(rand.NewSource(6))
	for range 2000 {
		w := randomWord(r, l)
		first := inst.Decode(w)
		inst.Decode(r.Uint32())
		inst.Encode(api.Inst{Op: inst.Sw, Imm: 1 << 20})
		if again := inst.Decode(w); again != first {
			t.Fatalf("Decode(%08X): %+v, then %+v", w, first, again)
		}
	}
}
