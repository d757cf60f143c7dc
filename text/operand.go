package text

import (
	"math"
	"strconv"

	"portico/api"
	"portico/inst"
)

// page is what the immediates of format U are multiples of.
const page = 4096

// An operand is a part of an instruction. Its functions share the place in the
// instruction where the part is kept, so that what one shows the other reads.
type operand struct {
	show func() string
	read func(s string) bool // whether s has the operand's form
}

// operandsOf returns the operands of x, in the order in which a line has them.
func operandsOf(x *api.Inst) []operand {
	rd, rs1, rs2 := register(&x.Rd), register(&x.Rs1), register(&x.Rs2)
	signed, unsigned := number(&x.Imm, signedText), number(&x.Imm, unsignedText)
	switch inst.Form(x.Op) {
	case inst.FormU:
		return []operand{rd, pages(&x.Imm)}
	case inst.FormJ:
		return []operand{rd, signed}
	case inst.FormI:
		if hasBase(x.Op) {
			return []operand{rd, based(&x.Imm, &x.Rs1)}
		}
		return []operand{rd, rs1, signed}
	case inst.FormB:
		return []operand{rs1, rs2, signed}
	case inst.FormS:
		return []operand{rs2, based(&x.Imm, &x.Rs1)}
	case inst.FormR:
		return []operand{rd, rs1, rs2}
	case inst.FormT:
		return []operand{rd, rs1, unsigned}
	case inst.FormC:
		return []operand{rd, unsigned, rs1}
	case inst.FormZ:
		return []operand{rd, unsigned, index(&x.Rs1)}
	default:
		return nil
	}
}

// hasBase reports whether an operation of format I has an operand Imm(Rs1).
func hasBase(op int) bool {
	switch op {
	case inst.Jalr, inst.Lb, inst.Lh, inst.Lw, inst.Lbu, inst.Lhu:
		return true
	default:
		return false
	}
}

// register is an operand that names the register r.
func register(r *int) operand {
	return operand{
		show: func() string { return registers[*r] },
		read: func(s string) bool {
			*r = Reg(s)
			return *r >= 0
		},
	}
}

// index is an operand that is the number of the register r.
func index(r *int) operand {
	return operand{
		show: func() string { return strconv.Itoa(*r) },
		read: func(s string) bool {
			n, ok := Number(s)
			*r = int(n)
			return ok && n < uint32(len(registers))
		},
	}
}

// number is an operand that is the number n, for which shown makes the text.
func number(n *uint32, shown func(n uint32) string) operand {
	return operand{
		show: func() string { return shown(*n) },
		read: func(s string) (ok bool) {
			*n, ok = Number(s)
			return ok
		},
	}
}

// pages is an operand that tells how many pages the number n is.
func pages(n *uint32) operand {
	return operand{
		show: func() string { return unsignedText(*n / page) },
		read: func(s string) bool {
			count, ok := Number(s)
			*n = count * page
			return ok && count <= math.MaxUint32/page
		},
	}
}

// based is an operand of the form Imm(Rs1).
func based(n *uint32, r *int) operand {
	return operand{
		show: func() string { return signedText(*n) + "(" + registers[*r] + ")" },
		read: func(s string) (ok bool) {
			*n, *r, ok = Base(s)
			return ok
		},
	}
}

func signedText(n uint32) string {
	return strconv.Itoa(int(int32(n)))
}

func unsignedText(n uint32) string {
	return strconv.FormatUint(uint64(n), 10)
}
