package hart

import (
	"portico/api"
	"portico/csr"
	"portico/inst"
)

// firstFixed is the least number of a register that instructions can't write.
const firstFixed = 0xC00

// system executes an instruction without fields.
func (h *Hart) system(x api.Inst, t Trace) Trace {
	machine := h.F.Mode == csr.Machine
	switch {
	case x.Op == inst.Fence, x.Op == inst.Wfi && machine:
		return h.next(t)
	case x.Op == inst.Mret && machine:
		h.Pc = h.F.Back()
		return t
	case x.Op == inst.Ecall && machine:
		return t.trapped(api.CallM, 0)
	case x.Op == inst.Ecall:
		return t.trapped(api.CallU, 0)
	case x.Op == inst.Ebreak:
		return t.trapped(api.Break, h.Pc)
	default:
		return t.illegal()
	}
}

// control reads a control and status register and writes it with the operand y.
func (h *Hart) control(x api.Inst, y uint32, t Trace) Trace {
	n := x.Imm
	old, exists := h.F.Read(n)
	writes := writesControl(x)
	if !exists || !h.F.May(n) || writes && n >= firstFixed {
		return t.illegal()
	}
	if writes {
		h.F.Write(n, written(x.Op, old, y))
	}
	return h.finish(x.Rd, old, t)
}

// writesControl reports whether x writes the register that it reads. What sets or
// clears bits doesn't if its field Rs1 is 0; what a register holds that Rs1
// names isn't asked.
func writesControl(x api.Inst) bool {
	return x.Op == inst.Csrrw || x.Op == inst.Csrrwi || x.Rs1 != 0
}

// written returns what an operation with the operand y makes of a register.
func written(op int, old, y uint32) uint32 {
	switch op {
	case inst.Csrrs, inst.Csrrsi:
		return old | y
	case inst.Csrrc, inst.Csrrci:
		return old &^ y
	default:
		return y
	}
}
