package text_test

import (
	"fmt"
	"math/rand"
	"strings"
	"testing"

	"portico/api"
	"portico/inst"
	"portico/text"
)

func TestRead(t *testing.T) {
	for _, k := range []struct {
		line string
		x    api.Inst
	}{
		{"  lw   t0 ,\t4(sp)\t", api.Inst{Op: inst.Lw, Rd: 5, Rs1: 2, Imm: 4}},
		{"lw t0,(sp)", api.Inst{Op: inst.Lw, Rd: 5, Rs1: 2}},
		{"lw x5,0x4(x2)", api.Inst{Op: inst.Lw, Rd: 5, Rs1: 2, Imm: 4}},
		{"lw t0, 0xffffffff(sp)", api.Inst{Op: inst.Lw, Rd: 5, Rs1: 2, Imm: greatest}},
		{"jalr ra, (t1)", api.Inst{Op: inst.Jalr, Rd: 1, Rs1: 6}},
		{"sw fp, -0x4(fp)", api.Inst{Op: inst.Sw, Rs1: 8, Rs2: 8, Imm: 0xFFFFFFFC}},
		{"addi a0,a0,4294967295", api.Inst{Op: inst.Addi, Rd: 10, Rs1: 10, Imm: greatest}},
		{"addi a0, a1, -0", api.Inst{Op: inst.Addi, Rd: 10, Rs1: 11}},
		{"addi zero, x0, 007", api.Inst{Op: inst.Addi, Imm: 7}},
		{"lui a0, 0xfffff", api.Inst{Op: inst.Lui, Rd: 10, Imm: 0xFFFFF000}},
		{"lui a0, -0", api.Inst{Op: inst.Lui, Rd: 10}},
		{"auipc a0, 0x80000", api.Inst{Op: inst.Auipc, Rd: 10, Imm: 1 << 31}},
		{"jal ra, -0x100000", api.Inst{Op: inst.Jal, Rd: 1, Imm: 0xFFF00000}},
		{"beq a0, a1, 4294967292", api.Inst{Op: inst.Beq, Rs1: 10, Rs2: 11, Imm: 0xFFFFFFFC}},
		{"srai a0, a1, 0x1f", api.Inst{Op: inst.Srai, Rd: 10, Rs1: 11, Imm: 31}},
		{"csrrw a0, 0x300, a1", api.Inst{Op: inst.Csrrw, Rd: 10, Rs1: 11, Imm: 0x300}},
		{"csrrwi a0, 0x300, 0x1f", api.Inst{Op: inst.Csrrwi, Rd: 10, Rs1: 31, Imm: 0x300}},
		{"csrrsi a0, 0, -0", api.Inst{Op: inst.Csrrsi, Rd: 10}},
		{"\tmret ", api.Inst{Op: inst.Mret}},
	} {
		if got, e := text.Read(k.line); got != k.x || e != api.OK {
			t.Errorf("Read(%q) is %+v, %d, want %+v", k.line, got, e, k.x)
		}
	}
}

// expectError reads lines that have the same error.
func expectError(t *testing.T, want api.Errno, lines ...string) {
	t.Helper()
	for _, line := range lines {
		if x, e := text.Read(line); x != (api.Inst{}) || e != want {
			t.Errorf("Read(%q) is %+v, %d, want error %d", line, x, e, want)
		}
	}
}

func TestReadNoLine(t *testing.T) {
	expectError(t, api.ErrForm,
		"", " ", "\t", ",", " , ", "nop", "ret", "ADD a0, a0, a0", "add,a0,a0,a0", "foo a0", ".word 1", "x: ecall", "ecall #", "# ecall", "none", "-1", "0",
		// The name ends with a space, not with a tab.
		"add\ta0, a0, a0", "lui\ta0, 1", "ecall\tx", "lui\t a0, 1",
		"ecall\n", "ecall\r", "\necall", "ecall\x00", "add a0, a0, a0\n", "add a0, a0, a0;",
		// Too few operands, and too many.
		"add", "add a0", "add a0, a0", "add a0, a0, a0, a0", "add a0, a0, a0,", "add , a0, a0, a0", "add a0,, a0, a0", "add a0 a0 a0", "add ,", "add ,,",
		"ecall a0", "ecall ,", "ecall 0", "fence 0", "fence rw, rw", "wfi ,",
		"lui", "lui a0", "lui a0, 1, 2", "jal 4", "jal ra", "jal ra, 4, 4", "jalr ra", "jalr ra, ra, 0", "lw t0", "lw t0, sp, 4", "lw t0, 4(sp), 0", "sw t0, sp, 4", "sw t0",
		"beq a0, 4", "beq a0, a1", "beq a0, a1, 4, 4", "addi a0, a0", "addi a0, 4", "addi a0, 4(a0)", "slli a0, 4", "csrrw a0, 0", "csrrw a0, 0, a0, 0", "csrrwi 0, 0",
		// Empty operands.
		"add a0, , a0", "lui a0,", "lui , 1", "lw t0, ", "lw ,(sp)", "addi a0, a0,", "csrrwi a0,,1",
		// Operands of another kind.
		"add a0, a0, 1", "add 1, 2, 3", "add a0, a0, a8", "add a0, a0, x32", "add a0, a0, (a0)", "add a0, a0, A0", "add a0, a0, -1",
		"lui a0, a0", "lui 1, a0", "lui a0, 1(a0)", "lui a0, 0X1", "lui a0, 0xA", "auipc a0, x1",
		"jal ra, a0", "jal 4, ra", "jal ra, loop", "jal ra, 4(ra)", "jalr ra, 4", "jalr ra, ra", "jalr 0(ra), ra", "jalr ra, 4(4)",
		"beq a0, 4, a1", "beq a0, 4, 4", "beq 0, a0, 4", "beq a0, a1, a2", "beq a0, a1, loop",
		"lw t0, 4", "lw t0, sp", "lw t0, 4 (sp)", "lw t0, 4( sp)", "lw t0, 4(sp )", "lw t0, 4(sp", "lw 4(sp), t0", "lw t0, 4(sp)4", "lw t0, a(sp)", "lw 5, 4(sp)",
		"sw 4(sp), t0", "sw t0, 4", "sw 0, 4(sp)", "sw t0, -(sp)",
		"addi a0, a0, a0", "addi a0, 1, a0", "addi a0, a0, 4(a0)", "addi a0, a0, 1 2", "addi a0, a0, +1", "addi a0, a0, - 1", "addi a0, a0, 4294967296", "addi a0, a0, -2147483649",
		"slli a0, a0, a0", "slli a0, 1, a0",
		"csrrw a0, a0, 0", "csrrw a0, a1, a2", "csrrw a0, 0, 0", "csrrw a0, mstatus, a0", "csrrwi a0, 0, a0", "csrrwi a0, 0, x5", "csrrwi a0, a0, 0", "csrrwi 0, 0, 0",
	)
}

// The bounds that the table of operands names are part of the form.
func TestReadBeyondTheForm(t *testing.T) {
	expectError(t, api.ErrForm,
		"lui a0, 1048576", "lui a0, 0x100000", "lui a0, 0x100001", "lui a0, 0x80000000", "lui a0, -1", "lui a0, -1048576", "lui a0, 4294967295", "lui a0, -2147483648",
		"auipc a0, 1048576", "auipc a0, -1", "auipc a0, 0x300000",
		"csrrwi a0, 0, 32", "csrrwi a0, 0, 0x20", "csrrwi a0, 0, -1", "csrrsi a0, 0, 4294967295", "csrrci a0, 0, 33", "csrrci a0, 0, -2147483648", "csrrwi a0, 0, 256",
	)
}

func TestReadWhatCannotBeEncoded(t *testing.T) {
	expectError(t, api.ErrRange,
		"jal ra, 1", "jal ra, -1", "jal ra, 1048576", "jal ra, -1048578", "jal ra, 0x80000000",
		"jalr ra, 2048(ra)", "jalr ra, -2049(ra)", "lw t0, 2048(sp)", "lw t0, -2049(sp)", "lw t0, 0x80000000(sp)", "lbu t0, 4096(sp)", "sw t0, 2048(sp)", "sb t0, -2049(sp)", "sh t0, 65536(sp)",
		"beq a0, a1, 1", "bne a0, a1, 3", "blt a0, a1, -1", "bge a0, a1, 4096", "bltu a0, a1, -4098", "bgeu a0, a1, 4294967295",
		"addi a0, a0, 2048", "addi a0, a0, -2049", "slti a0, a0, 4095", "sltiu a0, a0, 0xfff", "xori a0, a0, 65535", "ori a0, a0, 0x80000000", "andi a0, a0, 0xfffff7ff",
		"slli a0, a0, 32", "srli a0, a0, -1", "srai a0, a0, 63", "srai a0, a0, 0x400", "slli a0, a0, 4294967295",
		"csrrw a0, 4096, a0", "csrrs a0, -1, a0", "csrrc a0, 0x80000000, a0", "csrrwi a0, 4096, 0", "csrrsi a0, -1, 31", "csrrci a0, 65536, 1",
	)
}

// A line that hasn't the form has that error, whatever its numbers are.
func TestFormComesFirst(t *testing.T) {
	expectError(t, api.ErrForm,
		"addi a0, a9, 5000", "addi a0, a0, 5000, 1", "lw a9, 5000(sp)", "lw a0, 5000(s)", "sw a9, 5000(sp)", "jal r, 1", "beq a0, a, 1", "slli a, a0, 32", "csrrw a0, 4096, 0", "csrrw a, 4096, a0",
		"csrrwi a0, 4096, 32", "csrrwi a0, 4096, a0", "csrrwi a, 4096, 0",
	)
}

// mustRead holds Read against the model.
func mustRead(t *testing.T, line string) {
	t.Helper()
	want, wantError := readOf(line)
	if got, e := text.Read(line); got != want || e != wantError {
		t.Fatalf("Read(%q) is %+v, %d, want %+v, %d", line, got, e, want, wantError)
	}
}

// spellings returns ways to write a number.
func spellings(n int64) []string {
	if n < 0 {
		return []string{fmt.Sprintf("%d", n), fmt.Sprintf("-%#x", -n), fmt.Sprintf("%d", n+1<<32)}
	}
	return []string{fmt.Sprintf("%d", n), fmt.Sprintf("%#x", n), fmt.Sprintf("0%d", n)}
}

// pieces returns operands, right ones and wrong ones, of a kind (a letter of the
// model).
func pieces(r *rand.Rand, letter rune) string {
	name := func() string {
		if r.Intn(3) == 0 {
			return fmt.Sprintf("x%d", r.Intn(33))
		}
		return modelNames[r.Intn(len(modelNames))]
	}
	number := func() string {
		bits := []int{0, 5, 11, 12, 20, 31, 32}[r.Intn(7)]
		n := int64(1)<<bits + int64(r.Intn(7)) - 3
		if r.Intn(2) == 0 {
			n = r.Int63n(1<<bits + 1)
		}
		if r.Intn(2) == 0 {
			n = -n
		}
		l := spellings(n)
		return l[r.Intn(len(l))]
	}
	switch {
	case r.Intn(40) == 0:
		return ""
	case r.Intn(40) == 0:
		letter = rune("Dib"[r.Intn(3)])
	}
	switch letter {
	case 'D', 'S', 'T':
		return name()
	case 'b':
		if r.Intn(4) == 0 {
			return "(" + name() + ")"
		}
		return number() + "(" + name() + ")"
	default:
		return number()
	}
}

// Lines of each operation with operands of the right kinds, mostly, and blanks.
func TestReadRandomLines(t *testing.T) {
	r := rand.New(rand.NewSource(3))
	blank := func() string { return []string{"", "", " ", "\t", "  ", " \t "}[r.Intn(6)] }
	count := map[api.Errno]int{}
	for _, o := range modelList {
		for range 2500 {
			line := blank() + o.name
			if o.operands != "" || r.Intn(10) == 0 {
				line += " "
			}
			var l []string
			for _, letter := range o.operands {
				l = append(l, blank()+pieces(r, letter)+blank())
			}
			if r.Intn(30) == 0 {
				l = append(l, pieces(r, 'D'))
			}
			if len(l) > 0 && r.Intn(30) == 0 {
				l = l[1:]
			}
			line += strings.Join(l, ",") + blank()
			mustRead(t, line)
			_, e := readOf(line)
			count[e]++
		}
	}
	for _, e := range []api.Errno{api.OK, api.ErrForm, api.ErrRange} {
		if count[e] < 10000 {
			t.Errorf("only %d lines with error %d", count[e], e)
		}
	}
}

// Every number near the bounds, in every operand that is or has a number.
func TestReadNumbers(t *testing.T) {
	for _, o := range modelList {
		for i, kind := range o.operands {
			if !strings.ContainsRune("iupnb", kind) {
				continue
			}
			for _, bits := range []int{0, 4, 5, 6, 11, 12, 13, 19, 20, 21, 31, 32} {
				for d := int64(-4); d <= 4; d++ {
					for _, n := range []int64{1<<bits + d, -1<<bits + d} {
						for _, s := range spellings(n) {
							mustRead(t, sampleWith(o, i, s))
						}
					}
				}
			}
		}
	}
}

// sampleWith returns a line of o whose operand i has the number s.
func sampleWith(o operation, i int, s string) string {
	l := sample(o)
	if o.operands[i] == 'b' {
		s += "(a1)"
	}
	l[i] = s
	return o.name + " " + strings.Join(l, ", ")
}

// sample returns operands that a line of o may have.
func sample(o operation) []string {
	var l []string
	for _, letter := range o.operands {
		switch letter {
		case 'D':
			l = append(l, "s10")
		case 'S':
			l = append(l, "x31")
		case 'T':
			l = append(l, "fp")
		case 'b':
			l = append(l, "-12(t6)")
		default:
			l = append(l, "0x1c")
		}
	}
	return l
}

// Every byte of a line of each operation, changed, inserted or removed.
func TestChangedLines(t *testing.T) {
	for _, o := range modelList {
		line := o.name
		if o.operands != "" {
			line += " " + strings.Join(sample(o), ",")
		}
		if _, e := text.Read(line); e != api.OK {
			t.Fatalf("Read(%q): error %d", line, e)
		}
		changes(line, func(s string) { mustRead(t, s) })
	}
}

// Each operation with each sequence of up to four operands of three kinds.
func TestKindsOfOperands(t *testing.T) {
	for _, o := range modelList {
		every("012", 4, func(kinds string) {
			var l []string
			for _, k := range kinds {
				l = append(l, []string{"a1", "4", "4(a1)"}[k-'0'])
			}
			mustRead(t, strings.TrimSuffix(o.name+" "+strings.Join(l, ", "), " "))
		})
	}
}

// Any bytes at all: no call panics, and all agree with the model.
func TestAnyBytes(t *testing.T) {
	r := rand.New(rand.NewSource(4))
	parts := []string{"lw", "addi", "ecall", "lui", " ", "\t", ",", "a0", "(", ")", "sp", "-", "0x", "1", "4095", "\x00", "\xff", "é", "x31", "fp"}
	for range 200000 {
		var b strings.Builder
		for range r.Intn(9) {
			b.WriteString(parts[r.Intn(len(parts))])
		}
		s := b.String()
		mustRead(t, s)
		mustBeNumber(t, s)
		mustBeBase(t, s)
		mustBeRegister(t, s)
		mustBeOperation(t, s)
	}
}

// Long lines end, too.
func TestLongLines(t *testing.T) {
	many := strings.Repeat(" a0 ,", 1<<18)
	if name, l := text.Fields("add " + many); name != "add" || len(l) != 1<<18+1 || l[0] != "a0" || l[1<<18] != "" {
		t.Errorf("%q with %d operands", name, len(l))
	}
	blanks := strings.Repeat(" \t", 1<<18)
	x, e := text.Read(blanks + "addi " + blanks + "a0" + blanks + "," + blanks + "a1," + strings.Repeat("0", 1<<18) + "5" + blanks)
	if x != (api.Inst{Op: inst.Addi, Rd: 10, Rs1: 11, Imm: 5}) || e != api.OK {
		t.Errorf("%+v, error %d", x, e)
	}
	expectError(t, api.ErrForm, "add "+many, strings.Repeat("add", 1<<18), "lui a0, "+strings.Repeat("9", 1<<18), "lw a0, "+strings.Repeat("(", 1<<18), "lw a0, (sp"+strings.Repeat(")", 1<<18))
}
