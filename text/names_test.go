package text_test

import (
	"math"
	"strings"
	"testing"

	"portico/inst"
	"portico/text"
)

// numbered holds layer 11's constants beside the names.
func numbered() map[string]int {
	return map[string]int{
		"lui": inst.Lui, "auipc": inst.Auipc, "jal": inst.Jal, "jalr": inst.Jalr,
		"beq": inst.Beq, "bne": inst.Bne, "blt": inst.Blt, "bge": inst.Bge, "bltu": inst.Bltu, "bgeu": inst.Bgeu,
		"lb": inst.Lb, "lh": inst.Lh, "lw": inst.Lw, "lbu": inst.Lbu, "lhu": inst.Lhu,
		"sb": inst.Sb, "sh": inst.Sh, "sw": inst.Sw,
		"addi": inst.Addi, "slti": inst.Slti, "sltiu": inst.Sltiu, "xori": inst.Xori, "ori": inst.Ori, "andi": inst.Andi,
		"slli": inst.Slli, "srli": inst.Srli, "srai": inst.Srai,
		"add": inst.Add, "sub": inst.Sub, "sll": inst.Sll, "slt": inst.Slt, "sltu": inst.Sltu, "xor": inst.Xor,
		"srl": inst.Srl, "sra": inst.Sra, "or": inst.Or, "and": inst.And,
		"mul": inst.Mul, "mulh": inst.Mulh, "mulhsu": inst.Mulhsu, "mulhu": inst.Mulhu,
		"div": inst.Div, "divu": inst.Divu, "rem": inst.Rem, "remu": inst.Remu,
		"fence": inst.Fence, "ecall": inst.Ecall, "ebreak": inst.Ebreak, "mret": inst.Mret, "wfi": inst.Wfi,
		"csrrw": inst.Csrrw, "csrrs": inst.Csrrs, "csrrc": inst.Csrrc,
		"csrrwi": inst.Csrrwi, "csrrsi": inst.Csrrsi, "csrrci": inst.Csrrci,
	}
}

func TestNamesOfOperations(t *testing.T) {
	l := numbered()
	if len(l) != inst.Ops-1 || len(modelList) != inst.Ops-1 {
		t.Fatalf("%d names and a model of %d for %d operations", len(l), len(modelList), inst.Ops-1)
	}
	for name, op := range l {
		if got := text.Op(name); got != op {
			t.Errorf("Op(%q) is %d, want %d", name, got, op)
		}
		if got := text.Name(op); got != name {
			t.Errorf("Name(%d) is %q, want %q", op, got, name)
		}
	}
	for _, o := range modelList {
		if l[o.name] != o.op {
			t.Errorf("the model's %s has the number %d, want %d", o.name, o.op, l[o.name])
		}
	}
}

func TestNumbersOfNoOperation(t *testing.T) {
	others := []int{inst.None, inst.Ops, math.MaxInt, math.MinInt, 64, 128, 256}
	for i := range 300 {
		others = append(others, -i, inst.Ops+i)
	}
	for _, bits := range []int{8, 16, 31, 32, 63} {
		others = append(others, 1<<bits, 1<<bits+inst.Addi, -1<<bits+inst.Addi)
	}
	for _, op := range others {
		if got := text.Name(op); got != "" {
			t.Errorf("Name(%d) is %q", op, got)
		}
	}
}

// mustBeOperation holds Op against the list of names.
func mustBeOperation(t *testing.T, name string) {
	t.Helper()
	if got, want := text.Op(name), numberedNames[name]; got != want {
		t.Fatalf("Op(%q) is %d, want %d", name, got, want)
	}
}

// mustBeRegister holds Reg against the model.
func mustBeRegister(t *testing.T, s string) {
	t.Helper()
	if got, want := text.Reg(s), registerOf(s); got != want {
		t.Fatalf("Reg(%q) is %d, want %d", s, got, want)
	}
}

var numberedNames = numbered()

// every calls f with each string over some characters, up to a length.
func every(characters string, length int, f func(s string)) {
	f("")
	for n := 1; n <= length; n++ {
		b := make([]byte, n)
		var fill func(i int)
		fill = func(i int) {
			if i == n {
				f(string(b))
				return
			}
			for j := range len(characters) {
				b[i] = characters[j]
				fill(i + 1)
			}
		}
		fill(0)
	}
}

// changes calls f with each string that comes from s by replacing, inserting or
// removing one byte.
func changes(s string, f func(s string)) {
	for i := range len(s) + 1 {
		for c := range 256 {
			f(s[:i] + string([]byte{byte(c)}) + s[i:])
			if i < len(s) {
				f(s[:i] + string([]byte{byte(c)}) + s[i+1:])
			}
		}
		if i < len(s) {
			f(s[:i] + s[i+1:])
		}
	}
}

func TestEveryShortNameOfAnOperation(t *testing.T) {
	const letters = "abcdefghijklmnopqrstuvwxyz"
	every(letters, 4, func(s string) { mustBeOperation(t, s) })
	every(letters+strings.ToUpper(letters)+" .,\t\x000", 2, func(s string) { mustBeOperation(t, s) })
}

func TestChangedNamesOfOperations(t *testing.T) {
	for name := range numberedNames {
		changes(name, func(s string) { mustBeOperation(t, s) })
		for _, s := range []string{strings.ToUpper(name), strings.ToUpper(name[:1]) + name[1:], name + name, name + ".", " " + name, name + " ", "c." + name} {
			mustBeOperation(t, s)
		}
	}
	// What only the assembler knows.
	for _, s := range []string{"", "nop", "ret", "mv", "li", "la", "j", "call", "tail", "beqz", "bnez", ".word", ".space", "fence.i", "sret", "subi", "none", "ops"} {
		if got := text.Op(s); got != 0 {
			t.Errorf("Op(%q) is %d", s, got)
		}
	}
}

func TestNamesOfRegisters(t *testing.T) {
	for s, want := range map[string]int{
		"zero": 0, "ra": 1, "sp": 2, "gp": 3, "tp": 4, "t0": 5, "t1": 6, "t2": 7, "s0": 8, "s1": 9,
		"a0": 10, "a1": 11, "a2": 12, "a3": 13, "a4": 14, "a5": 15, "a6": 16, "a7": 17,
		"s2": 18, "s3": 19, "s4": 20, "s5": 21, "s6": 22, "s7": 23, "s8": 24, "s9": 25, "s10": 26, "s11": 27,
		"t3": 28, "t4": 29, "t5": 30, "t6": 31, "fp": 8,
		"x0": 0, "x1": 1, "x2": 2, "x3": 3, "x4": 4, "x5": 5, "x6": 6, "x7": 7, "x8": 8, "x9": 9,
		"x10": 10, "x11": 11, "x12": 12, "x13": 13, "x14": 14, "x15": 15, "x16": 16, "x17": 17, "x18": 18, "x19": 19,
		"x20": 20, "x21": 21, "x22": 22, "x23": 23, "x24": 24, "x25": 25, "x26": 26, "x27": 27, "x28": 28, "x29": 29,
		"x30": 30, "x31": 31,
	} {
		if got := text.Reg(s); got != want {
			t.Errorf("Reg(%q) is %d, want %d", s, got, want)
		}
		if got := registerOf(s); got != want {
			t.Errorf("the model's register %q is %d, want %d", s, got, want)
		}
	}
	for _, s := range []string{
		"", "x", "x00", "x01", "x031", "x32", "x33", "x40", "x99", "x100", "x-0", "x-1", "x+1", "x1 ", " x1", "x 1", "x0x1", "x1f", "X1",
		"0", "1", "31", "s12", "s01", "s00", "a8", "a00", "t7", "t00", "fp0", "FP", "Zero", "ZERO", "SP", "pc", "s", "a", "t", "f0", "ft0", "sp,", "(sp)", "%sp", "$sp",
		"x4294967296", "x18446744073709551616", "x2147483648",
	} {
		if got := text.Reg(s); got != -1 {
			t.Errorf("Reg(%q) is %d, want -1", s, got)
		}
	}
}

func TestEveryShortNameOfARegister(t *testing.T) {
	every("xzerogpstaf0123456789-+ _X", 3, func(s string) { mustBeRegister(t, s) })
	every("x0123456789", 5, func(s string) { mustBeRegister(t, s) })
	for c := range 256 {
		for d := range 256 {
			mustBeRegister(t, string([]byte{byte(c), byte(d)}))
		}
	}
	for name := range modelRegisters {
		changes(name, func(s string) { mustBeRegister(t, s) })
		mustBeRegister(t, strings.ToUpper(name))
		mustBeRegister(t, name+name)
	}
}
