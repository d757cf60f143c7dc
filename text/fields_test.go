package text_test

import (
	"fmt"
	"math/rand"
	"slices"
	"strings"
	"testing"

	"portico/text"
)

func TestNumbers(t *testing.T) {
	zeros := strings.Repeat("0", 1000)
	for s, want := range map[string]uint32{
		"0": 0, "7": 7, "10": 10, "00": 0, "007": 7, "010": 10, "2147483648": 1 << 31, "4294967295": greatest, "04294967295": greatest,
		"0x0": 0, "0x7": 7, "0x10": 16, "0x00": 0, "0x0010": 16, "0xabcdef": 0xABCDEF, "0x9f": 0x9F, "0xffffffff": greatest, "0x0ffffffff": greatest,
		"-0": 0, "-00": 0, "-1": greatest, "-2048": 0xFFFFF800, "-2147483647": 0x80000001, "-2147483648": 1 << 31, "-002147483648": 1 << 31,
		"-0x0": 0, "-0x1": greatest, "-0x80000000": 1 << 31, "-0x7fffffff": 0x80000001, "-0x080000000": 1 << 31,
		zeros: 0, zeros + "1": 1, "0x" + zeros + "ff": 255, "-" + zeros + "1": greatest, "-0x" + zeros: 0,
	} {
		if got, ok := text.Number(s); got != want || !ok {
			t.Errorf("Number(%.20q) is %d, %v, want %d", s, got, ok, want)
		}
	}
}

func TestNoNumbers(t *testing.T) {
	for _, s := range []string{
		"", "-", "0x", "-0x", "x", "x1", "0x-1", "--1", "-+1", "+1", "- 1", " 1", "1 ", "\t1", "1\t", "1\n", "\x001", "1\x00",
		"4294967296", "4294967300", "0x100000000", "99999999999", "18446744073709551616", "18446744073709551617", "0x10000000000000000", "0x10000000000000001",
		"-2147483649", "-0x80000001", "-4294967295", "-4294967296", "-0xffffffff", "-18446744073709551616",
		"0xA", "0xF", "0xaG", "0X1", "0Xf", "-0X1", "0xg", "0x1g", "0x 1", "a", "f", "1a", "ff", "12f", "0b1", "0o7", "1e3", "1.0", "1_000", "0x_1", "1,", "00x1", "0x0x1", "00xf",
		"٣", "１", "a0", "zero", "sp", "1(sp)", "1-", "-1-", "1-1",
		strings.Repeat("9", 1000), strings.Repeat("0", 1000) + "4294967296", "0x" + strings.Repeat("f", 1000), "1" + strings.Repeat("0", 64), "-1" + strings.Repeat("0", 64),
	} {
		if got, ok := text.Number(s); got != 0 || ok {
			t.Errorf("Number(%.20q) is %d, %v", s, got, ok)
		}
	}
}

// mustBeNumber holds Number against the model.
func mustBeNumber(t *testing.T, s string) {
	t.Helper()
	want, valid := numberOf(s)
	if got, ok := text.Number(s); got != want || ok != valid {
		t.Fatalf("Number(%q) is %d, %v, want %d, %v", s, got, ok, want, valid)
	}
}

func TestEveryShortNumber(t *testing.T) {
	every("0189afgxAX-+ _", 5, func(s string) { mustBeNumber(t, s) })
	for _, s := range []string{"4294967295", "4294967296", "-2147483648", "-2147483649", "0xffffffff", "-0x80000000", "0x", "-1"} {
		changes(s, func(s string) { mustBeNumber(t, s) })
	}
}

// Numbers near the bounds and their multiples, in both bases.
func TestNumbersNearBounds(t *testing.T) {
	for _, bits := range []int{0, 1, 8, 11, 12, 16, 20, 30, 31, 32, 33, 40, 62} {
		for d := int64(-40); d <= 40; d++ {
			n := int64(1)<<bits + d
			for _, s := range []string{fmt.Sprintf("%d", n), fmt.Sprintf("%#x", n), fmt.Sprintf("-%d", n), fmt.Sprintf("-%#x", n), fmt.Sprintf("0%d", n), fmt.Sprintf("%#X", n)} {
				mustBeNumber(t, s)
			}
		}
	}
	r := rand.New(rand.NewSource(1))
	for range 100000 {
		n := r.Uint64() >> r.Intn(64)
		mustBeNumber(t, fmt.Sprintf("%d", n))
		mustBeNumber(t, fmt.Sprintf("%#x", n))
		mustBeNumber(t, fmt.Sprintf("-%d", n))
		mustBeNumber(t, fmt.Sprintf("-%#x", n))
	}
}

func TestFields(t *testing.T) {
	for _, k := range []struct {
		line, name string
		operands   []string
	}{
		{"", "", nil},
		{" \t \t", "", nil},
		{"ecall", "ecall", nil},
		{" \tecall\t ", "ecall", nil},
		{"lw t0, 4(sp)", "lw", []string{"t0", "4(sp)"}},
		{"add a0,a1,a2", "add", []string{"a0", "a1", "a2"}},
		{"\t add   a0 \t,\ta1  ,  a2\t ", "add", []string{"a0", "a1", "a2"}},
		{"add \ta0", "add", []string{"a0"}},
		{"ecall a", "ecall", []string{"a"}},
		{"a b c, d e", "a", []string{"b c", "d e"}},
		// The name ends with a space only: not with a tab, and not with a comma.
		{"add\ta0, a1", "add\ta0,", []string{"a1"}},
		{"add\ta0", "add\ta0", nil},
		{"add\t a0", "add\t", []string{"a0"}},
		{"a,b c,d", "a,b", []string{"c", "d"}},
		{"a,b", "a,b", nil},
		{",", ",", nil},
		// Operands may be empty, but a space has at least one after it.
		{"a ,", "a", []string{"", ""}},
		{"a b,", "a", []string{"b", ""}},
		{"a ,b", "a", []string{"", "b"}},
		{"a b,,c", "a", []string{"b", "", "c"}},
		{"a b, \t ,c", "a", []string{"b", "", "c"}},
		{", ,", ",", []string{"", ""}},
		// Other characters aren't ignored.
		{"\na b\r", "\na", []string{"b\r"}},
		{"a\u00a0b", "a\u00a0b", nil},
		{"a \u2003b\u00a0", "a", []string{"\u2003b\u00a0"}},
		{"a\xff \xfe,\x00", "a\xff", []string{"\xfe", "\x00"}},
		{"a # b", "a", []string{"# b"}},
	} {
		name, operands := text.Fields(k.line)
		if name != k.name || !slices.Equal(operands, k.operands) {
			t.Errorf("Fields(%q) is %q, %q, want %q, %q", k.line, name, operands, k.name, k.operands)
		}
	}
}

func TestEveryShortLine(t *testing.T) {
	every("ab ,\t\n", 7, func(s string) {
		wantName, want := fieldsOf(s)
		name, operands := text.Fields(s)
		if name != wantName || !slices.Equal(operands, want) {
			t.Fatalf("Fields(%q) is %q, %q, want %q, %q", s, name, operands, wantName, want)
		}
	})
}

// A slice of operands is the caller's: what is done to it isn't seen later.
func TestOperandsAreNew(t *testing.T) {
	_, first := text.Fields("a b, c")
	first[0] = "x"
	_ = append(first[:1], "y")
	if _, again := text.Fields("a b, c"); !slices.Equal(again, []string{"b", "c"}) {
		t.Errorf("the operands are %q", again)
	}
}

func TestBase(t *testing.T) {
	for _, k := range []struct {
		s string
		n uint32
		r int
	}{
		{"4(sp)", 4, 2},
		{"-4(sp)", 0xFFFFFFFC, 2},
		{"(sp)", 0, 2},
		{"0(zero)", 0, 0},
		{"(x31)", 0, 31},
		{"0x7ff(fp)", 0x7FF, 8},
		{"-0x800(x8)", 0xFFFFF800, 8},
		{"4294967295(t6)", greatest, 31},
		{"-2147483648(s11)", 1 << 31, 27},
		{"-0(a0)", 0, 10},
		{"007(a0)", 7, 10},
	} {
		if n, r, ok := text.Base(k.s); n != k.n || r != k.r || !ok {
			t.Errorf("Base(%q) is %d, %d, %v, want %d, %d", k.s, n, r, ok, k.n, k.r)
		}
	}
	for _, s := range []string{
		"", "(", ")", "()", "4", "4()", "sp", "4sp", "4(sp", "4 sp)", "(sp", "sp)", "4sp)", "4)sp(", ")sp(",
		"4(sp) ", " 4(sp)", "4 (sp)", "4( sp)", "4(sp )", "\t(sp)", "(sp)\t", "4(sp)4", "(sp)(sp)", "4(sp)(sp)", "4((sp))", "((sp))", "(4(sp))", "4(sp))", "(sp))",
		"4(2)", "4(x32)", "4(x02)", "4(SP)", "4(pc)", "4(-1)", "4(sp,ra)",
		"-(sp)", "0x(sp)", "-0x(sp)", "--4(sp)", "+4(sp)", "4-(sp)", "a(sp)", "0xA(sp)", "sp(sp)", "4294967296(sp)", "-2147483649(sp)", "sp(4)", "1,(sp)",
	} {
		if _, _, ok := text.Base(s); ok {
			t.Errorf("Base(%q) has the form", s)
		}
	}
}

// mustBeBase holds Base against the model.
func mustBeBase(t *testing.T, s string) {
	t.Helper()
	n, r, valid := baseOf(s)
	gotN, gotR, ok := text.Base(s)
	if ok != valid || ok && (gotN != n || gotR != r) {
		t.Fatalf("Base(%q) is %d, %d, %v, want %d, %d, %v", s, gotN, gotR, ok, n, r, valid)
	}
}

func TestEveryShortBase(t *testing.T) {
	every("-0(sp)x ", 6, func(s string) { mustBeBase(t, s) })
	every("1(fp)", 8, func(s string) { mustBeBase(t, s) })
	for _, s := range []string{"4(sp)", "(a0)", "-2048(x31)", "0xfff(zero)", "4294967295(t0)"} {
		changes(s, func(s string) { mustBeBase(t, s) })
	}
	for name := range modelRegisters {
		for _, digits := range []string{"", "0", "-1", "0xff", "-", "0x", "9"} {
			mustBeBase(t, digits+"("+name+")")
			mustBeBase(t, digits+name)
			mustBeBase(t, digits+"("+name)
			mustBeBase(t, digits+name+")")
		}
	}
}
