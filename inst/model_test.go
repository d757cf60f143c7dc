package inst_test

import (
	"math"
	"math/rand"
	"strconv"
	"strings"
	"testing"

	"portico/api"
	"portico/inst"
)

const greatest = math.MaxUint32

// The operations, as the chapter lists them with their formats and words.
const listed = `
U Lui 37, Auipc 17
J Jal 6F
I Jalr 67
B Beq 63, Bne 1063, Blt 4063, Bge 5063, Bltu 6063, Bgeu 7063
I Lb 03, Lh 1003, Lw 2003, Lbu 4003, Lhu 5003
S Sb 23, Sh 1023, Sw 2023
I Addi 13, Slti 2013, Sltiu 3013, Xori 4013, Ori 6013, Andi 7013
T Slli 1013, Srli 5013, Srai 40005013
R Add 33, Sub 40000033, Sll 1033, Slt 2033, Sltu 3033, Xor 4033, Srl 5033, Sra 40005033, Or 6033, And 7033
R Mul 2000033, Mulh 2001033, Mulhsu 2002033, Mulhu 2003033, Div 2004033, Divu 2005033, Rem 2006033, Remu 2007033
N Fence F, Ecall 73, Ebreak 100073, Mret 30200073, Wfi 10500073
C Csrrw 1073, Csrrs 2073, Csrrc 3073
Z Csrrwi 5073, Csrrsi 6073, Csrrci 7073`

// The formats' letters, in the order of their numbers.
const letters = "UJIBSRTNCZ"

// A layout is what a format uses: registers, and the bits of the word that make
// up the immediate, the most significant first; a 0 is a bit that isn't in the
// word (bit 0 of the word belongs to no immediate).
type layout struct {
	rd, rs1, rs2 bool
	bits         string
	signed       bool
}

// layoutOf is the chapter's list of the formats.
func layoutOf(letter byte) layout {
	switch letter {
	case 'U':
		return layout{rd: true, bits: "31:12 0 0 0 0 0 0 0 0 0 0 0 0"}
	case 'J':
		return layout{rd: true, bits: "31 19:12 20 30:21 0", signed: true}
	case 'I':
		return layout{rd: true, rs1: true, bits: "31:20", signed: true}
	case 'B':
		return layout{rs1: true, rs2: true, bits: "31 7 30:25 11:8 0", signed: true}
	case 'S':
		return layout{rs1: true, rs2: true, bits: "31:25 11:7", signed: true}
	case 'R':
		return layout{rd: true, rs1: true, rs2: true}
	case 'T':
		return layout{rd: true, rs1: true, bits: "24:20"}
	case 'C', 'Z':
		return layout{rd: true, rs1: true, bits: "31:20"}
	default:
		return layout{}
	}
}

// positions returns the bits' places in the word, the most significant first.
func positions(bits string) []int {
	var l []int
	for _, run := range strings.Fields(bits) {
		high, low, more := strings.Cut(run, ":")
		if !more {
			low = high
		}
		for at := number(high, 10); at >= number(low, 10); at-- {
			l = append(l, at)
		}
	}
	return l
}

func number(s string, base int) int {
	n, e := strconv.ParseInt(s, base, 64)
	if e != nil {
		panic(e)
	}
	return int(n)
}

// An operation is a line of the list, split up.
type operation struct {
	op      int
	name    string
	letter  byte
	word    uint32
	layout  layout
	numbers []int  // the places of the immediate's bits
	free    uint32 // the bits that may be anything in its words
}

// operations returns all of the chapter's list, numbered from 1 on.
func operations() []operation {
	var l []operation
	for _, line := range strings.Split(strings.TrimSpace(listed), "\n") {
		for _, entry := range strings.Split(line[2:], ", ") {
			name, word, _ := strings.Cut(entry, " ")
			o := operation{op: len(l) + 1, name: name, letter: line[0], word: uint32(number(word, 16))}
			o.layout = layoutOf(o.letter)
			o.numbers = positions(o.layout.bits)
			o.free = freeBits(o)
			l = append(l, o)
		}
	}
	return l
}

// named returns the operation of that name.
func named(t *testing.T, name string) operation {
	t.Helper()
	for _, o := range operations() {
		if o.name == name {
			return o
		}
	}
	t.Fatalf("no operation %s", name)
	return operation{}
}

func freeBits(o operation) uint32 {
	fields := ""
	if o.name == "Fence" {
		fields = "31:15 11:7"
	}
	if o.layout.rd {
		fields += " 11:7"
	}
	if o.layout.rs1 {
		fields += " 19:15"
	}
	if o.layout.rs2 {
		fields += " 24:20"
	}
	free := uint32(0)
	for _, at := range append(positions(fields), o.numbers...) {
		if at > 0 {
			free |= power(at)
		}
	}
	return free
}

func power(n int) uint32 {
	return uint32(1) << n
}

// slowImmediate collects the bits one by one.
func slowImmediate(w uint32, places []int, signed bool) uint32 {
	n := int64(0)
	for _, at := range places {
		n *= 2
		if at > 0 && w&power(at) != 0 {
			n++
		}
	}
	if signed && w&power(31) != 0 {
		n -= 1 << len(places)
	}
	return uint32(n)
}

// slowSet replaces the bits one by one. The last of an immediate is its bit 0.
func slowSet(w, x uint32, places []int) uint32 {
	for i, at := range places {
		if at == 0 {
			continue
		}
		if x&power(len(places)-1-i) != 0 {
			w |= power(at)
		} else if w&power(at) != 0 {
			w -= power(at)
		}
	}
	return w
}

// slowDecode looks for the operation among all of them.
func slowDecode(w uint32, l []operation) api.Inst {
	for _, o := range l {
		if w|o.free != o.word|o.free {
			continue
		}
		x := api.Inst{Op: o.op, Imm: slowImmediate(w, o.numbers, o.layout.signed)}
		if o.layout.rd {
			x.Rd = int(w / 128 % 32)
		}
		if o.layout.rs1 {
			x.Rs1 = int(w / 32768 % 32)
		}
		if o.layout.rs2 {
			x.Rs2 = int(w / 1048576 % 32)
		}
		return x
	}
	return api.Inst{}
}

// slowEncode checks what the chapter asks of each field.
func slowEncode(x api.Inst, l []operation) (uint32, bool) {
	for _, o := range l {
		if o.op != x.Op {
			continue
		}
		fits := register(x.Rd, o.layout.rd) && register(x.Rs1, o.layout.rs1) && register(x.Rs2, o.layout.rs2)
		if !fits || !immediateFits(x.Imm, o.letter) {
			return 0, false
		}
		w := o.word + 128*uint32(x.Rd) + 32768*uint32(x.Rs1) + 1048576*uint32(x.Rs2)
		return slowSet(w, x.Imm, o.numbers), true
	}
	return 0, false
}

func register(n int, used bool) bool {
	return n == 0 || used && n > 0 && n < 32
}

func immediateFits(imm uint32, letter byte) bool {
	n := int64(int32(imm))
	switch letter {
	case 'I', 'S':
		return n >= -2048 && n <= 2047
	case 'B':
		return n >= -4096 && n <= 4094 && n%2 == 0
	case 'J':
		return n >= -1048576 && n <= 1048574 && n%2 == 0
	case 'U':
		return n%4096 == 0
	case 'T':
		return n >= 0 && n < 32
	case 'C', 'Z':
		return n >= 0 && n < 4096
	default:
		return n == 0
	}
}

// edges returns numbers around each power of 2 and its negative.
func edges() []uint32 {
	l := []uint32{0, greatest, 0x55555555, 0xAAAAAAAA, 0x12345678}
	for i := range 32 {
		for d := uint32(0); d < 7; d++ {
			l = append(l, power(i)+d-3, d-3-power(i))
		}
	}
	return l
}

// randomWord returns the word of a random operation with random fields, often
// with one other bit changed, or any word.
func randomWord(r *rand.Rand, l []operation) uint32 {
	o := l[r.Intn(len(l))]
	w := o.word | r.Uint32()&o.free
	switch r.Intn(4) {
	case 0:
		return w ^ power(r.Intn(32))
	case 1:
		return r.Uint32()
	default:
		return w
	}
}

// mustDecode checks a word's instruction, and what it encodes to.
func mustDecode(t *testing.T, w uint32, l []operation) {
	t.Helper()
	want := slowDecode(w, l)
	got := inst.Decode(w)
	if got != want {
		t.Fatalf("Decode(%08X): got %+v, want %+v", w, got, want)
	}
	if want.Op == 0 {
		return
	}
	if l[want.Op-1].name == "Fence" {
		w = 0x0F
	}
	if back, ok := inst.Encode(got); back != w || !ok {
		t.Fatalf("Encode(%+v): got %08X, %v, want %08X", got, back, ok, w)
	}
}

// mustEncode checks an instruction's word, and what it decodes to.
func mustEncode(t *testing.T, x api.Inst, l []operation) bool {
	t.Helper()
	want, fits := slowEncode(x, l)
	got, ok := inst.Encode(x)
	if ok != fits || fits && got != want {
		t.Fatalf("Encode(%+v): got %08X, %v, want %08X, %v", x, got, ok, want, fits)
	}
	if !fits {
		return false
	}
	if back := inst.Decode(got); back != x {
		t.Fatalf("Decode(%08X): got %+v, want %+v", got, back, x)
	}
	return true
}
