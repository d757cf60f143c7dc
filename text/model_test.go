package text_test

import (
	"fmt"
	"math"
	"math/big"
	"regexp"
	"strings"

	"portico/api"
)

// The model goes by the chapter's words alone: a line is held against a regular
// expression for its operation, numbers are read by math/big, and whether an
// instruction can be encoded is asked of a list of bounds.

const greatest = math.MaxUint32

// The operations in layer 11's order, with the operands of their lines: D, S and
// T are the registers Rd, Rs1 and Rs2, i and u are Imm, signed and not, p is
// Imm / 4096, n is the number of Rs1, and b is Imm(Rs1). The numbers are the least
// and the greatest Imm, and what it must be a multiple of.
const listed = `
lui auipc | D p | 0 4294967295 4096
jal | D i | -1048576 1048574 2
jalr | D b | -2048 2047 1
beq bne blt bge bltu bgeu | S T i | -4096 4094 2
lb lh lw lbu lhu | D b | -2048 2047 1
sb sh sw | T b | -2048 2047 1
addi slti sltiu xori ori andi | D S i | -2048 2047 1
slli srli srai | D S u | 0 31 1
add sub sll slt sltu xor srl sra or and | D S T | 0 0 1
mul mulh mulhsu mulhu div divu rem remu | D S T | 0 0 1
fence ecall ebreak mret wfi | | 0 0 1
csrrw csrrs csrrc | D u S | 0 4095 1
csrrwi csrrsi csrrci | D u n | 0 4095 1`

// An operation is one of the list.
type operation struct {
	op         int
	name       string
	operands   string // the letters
	least      int64  // of Imm, as a signed number where it is one
	most       int64
	multipleOf int64
	line       *regexp.Regexp
}

// modelNames are the chapter's names of registers, from register 0 on.
var modelNames = strings.Fields("zero ra sp gp tp t0 t1 t2 s0 s1 a0 a1 a2 a3 a4 a5 a6 a7 s2 s3 s4 s5 s6 s7 s8 s9 s10 s11 t3 t4 t5 t6")

// registersByName has all names of registers.
func registersByName() map[string]int {
	m := map[string]int{"fp": 8}
	for i, name := range modelNames {
		m[name] = i
		m[fmt.Sprintf("x%d", i)] = i
	}
	return m
}

var (
	modelRegisters = registersByName()
	modelList      = operations()
	modelNumber    = regexp.MustCompile(`\A(-?)(?:0x([0-9a-f]+)|([0-9]+))\z`)
	modelBase      = regexp.MustCompile(`\A([^(]*)\(([^()]*)\)\z`)
)

// operations returns the list, numbered from 1 on.
func operations() []operation {
	var l []operation
	for _, row := range strings.Split(strings.TrimSpace(listed), "\n") {
		part := strings.Split(row, "|")
		for _, name := range strings.Fields(part[0]) {
			o := operation{op: len(l) + 1, name: name, operands: strings.ReplaceAll(part[1], " ", "")}
			if n, e := fmt.Sscan(part[2], &o.least, &o.most, &o.multipleOf); n != 3 || e != nil {
				panic(row)
			}
			o.line = lineOf(o)
			l = append(l, o)
		}
	}
	return l
}

// lineOf returns what the lines of an operation look like: its name, and as many
// operands as it has, without spaces and tabs around them. What isn't split up
// further has neither a comma nor such a blank at its ends.
func lineOf(o operation) *regexp.Regexp {
	const operand = `[ \t]*([^ \t,](?:[^,]*[^ \t,])?)[ \t]*`
	if o.operands == "" {
		return regexp.MustCompile(`\A[ \t]*` + o.name + `[ \t]*\z`)
	}
	all := strings.TrimSuffix(strings.Repeat(operand+",", len(o.operands)), ",")
	return regexp.MustCompile(`\A[ \t]*` + o.name + ` ` + all + `\z`)
}

// numberOf is Number.
func numberOf(s string) (uint32, bool) {
	m := modelNumber.FindStringSubmatch(s)
	if m == nil {
		return 0, false
	}
	digits, base, most := m[2], 16, new(big.Int).SetUint64(greatest)
	if digits == "" {
		digits, base = m[3], 10
	}
	if m[1] == "-" {
		most.SetInt64(1 << 31)
	}
	n, ok := new(big.Int).SetString(digits, base)
	if !ok || n.Cmp(most) > 0 {
		return 0, false
	}
	if m[1] == "-" && n.Sign() > 0 {
		n.Sub(big.NewInt(1<<32), n)
	}
	return uint32(n.Uint64()), true
}

// registerOf is Reg.
func registerOf(s string) int {
	if r, ok := modelRegisters[s]; ok {
		return r
	}
	return -1
}

// baseOf is Base.
func baseOf(s string) (uint32, int, bool) {
	m := modelBase.FindStringSubmatch(s)
	if m == nil {
		return 0, 0, false
	}
	n, ok := numberOf(m[1])
	r := registerOf(m[2])
	if !ok && m[1] != "" || r < 0 {
		return 0, 0, false
	}
	return n, r, true
}

// fieldsOf is Fields, character by character.
func fieldsOf(line string) (name string, operands []string) {
	blank := func(c byte) bool { return c == 32 || c == 9 }
	bare := func(s string) string {
		for s != "" && blank(s[0]) {
			s = s[1:]
		}
		for s != "" && blank(s[len(s)-1]) {
			s = s[:len(s)-1]
		}
		return s
	}
	line = bare(line)
	at := 0
	for at < len(line) && line[at] != 32 {
		at++
	}
	name = line[:at]
	if at == len(line) {
		return name, nil
	}
	from := at + 1
	for i := from; i <= len(line); i++ {
		if i == len(line) || line[i] == ',' {
			operands = append(operands, bare(line[from:i]))
			from = i + 1
		}
	}
	return name, operands
}

// signed reports whether the immediate is a signed number.
func (o operation) signed() bool { return strings.ContainsAny(o.operands, "ib") }

// encodable reports whether x is an instruction of o that can be encoded.
func (o operation) encodable(x api.Inst) bool {
	for _, f := range []struct {
		letters string
		r       int
	}{{"D", x.Rd}, {"Snb", x.Rs1}, {"T", x.Rs2}} {
		if f.r < 0 || f.r > 31 || f.r != 0 && !strings.ContainsAny(o.operands, f.letters) {
			return false
		}
	}
	n := int64(x.Imm)
	if o.signed() {
		n = int64(int32(x.Imm))
	}
	return o.least <= n && n <= o.most && n%o.multipleOf == 0
}

// find returns the operation with that number.
func find(op int) (operation, bool) {
	for _, o := range modelList {
		if o.op == op {
			return o, true
		}
	}
	return operation{}, false
}

// shown is Show.
func shown(x api.Inst) string {
	o, ok := find(x.Op)
	if !ok || !o.encodable(x) {
		return ""
	}
	var l []string
	for _, letter := range o.operands {
		switch letter {
		case 'D':
			l = append(l, modelNames[x.Rd])
		case 'S':
			l = append(l, modelNames[x.Rs1])
		case 'T':
			l = append(l, modelNames[x.Rs2])
		case 'i':
			l = append(l, fmt.Sprintf("%d", int32(x.Imm)))
		case 'u':
			l = append(l, fmt.Sprintf("%d", x.Imm))
		case 'p':
			l = append(l, fmt.Sprintf("%d", x.Imm>>12))
		case 'n':
			l = append(l, fmt.Sprintf("%d", x.Rs1))
		case 'b':
			l = append(l, fmt.Sprintf("%d(%s)", int32(x.Imm), modelNames[x.Rs1]))
		}
	}
	return strings.TrimSuffix(o.name+" "+strings.Join(l, ", "), " ")
}

// readOf is Read.
func readOf(line string) (api.Inst, api.Errno) {
	for _, o := range modelList {
		if !strings.Contains(line, o.name) {
			continue // to be fast
		}
		if m := o.line.FindStringSubmatch(line); m != nil {
			return o.instruction(m[1:])
		}
	}
	return api.Inst{}, api.ErrForm
}

// instruction returns what the operands of a line say.
func (o operation) instruction(operands []string) (api.Inst, api.Errno) {
	x := api.Inst{Op: o.op}
	for i, letter := range o.operands {
		s, ok := operands[i], true
		switch letter {
		case 'D':
			x.Rd = registerOf(s)
			ok = x.Rd >= 0
		case 'S':
			x.Rs1 = registerOf(s)
			ok = x.Rs1 >= 0
		case 'T':
			x.Rs2 = registerOf(s)
			ok = x.Rs2 >= 0
		case 'i', 'u':
			x.Imm, ok = numberOf(s)
		case 'p':
			x.Imm, ok = numberOf(s)
			ok = ok && x.Imm>>20 == 0
			x.Imm <<= 12
		case 'n':
			var n uint32
			n, ok = numberOf(s)
			ok = ok && n>>5 == 0
			x.Rs1 = int(n)
		case 'b':
			x.Imm, x.Rs1, ok = baseOf(s)
		}
		if !ok {
			return api.Inst{}, api.ErrForm
		}
	}
	if !o.encodable(x) {
		return api.Inst{}, api.ErrRange
	}
	return x, api.OK
}
