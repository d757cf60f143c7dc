package hart

import (
	"portico/alu"
	"portico/api"
	"portico/inst"
)

// execute executes x, whose trace is t so far. Like all functions below, it
// returns the whole trace, and changes nothing if that has a trap.
func (h *Hart) execute(x api.Inst, t Trace) Trace {
	switch inst.Form(x.Op) {
	case inst.FormU:
		return h.upper(x, t)
	case inst.FormJ:
		return h.jump(x.Rd, h.Pc+x.Imm, t)
	case inst.FormB:
		return h.branch(x, t)
	case inst.FormI:
		return h.short(x, t)
	case inst.FormS:
		return h.store(x, t)
	case inst.FormR:
		return h.reckon(x, h.X[x.Rs2], t)
	case inst.FormT:
		return h.reckon(x, x.Imm, t)
	case inst.FormN:
		return h.system(x, t)
	case inst.FormC:
		return h.control(x, h.X[x.Rs1], t)
	case inst.FormZ:
		return h.control(x, uint32(x.Rs1), t)
	default:
		return t.illegal()
	}
}

// short executes an instruction of format I.
func (h *Hart) short(x api.Inst, t Trace) Trace {
	if x.Op == inst.Jalr {
		return h.jump(x.Rd, (h.X[x.Rs1]+x.Imm)&^1, t)
	}
	if alu.Width(x.Op) > 0 {
		return h.load(x, t)
	}
	return h.reckon(x, x.Imm, t)
}

// upper executes Lui and Auipc.
func (h *Hart) upper(x api.Inst, t Trace) Trace {
	y := x.Imm
	if x.Op == inst.Auipc {
		y += h.Pc
	}
	return h.finish(x.Rd, y, t)
}

// reckon executes an arithmetic operation on Rs1 and b.
func (h *Hart) reckon(x api.Inst, b uint32, t Trace) Trace {
	y, _ := alu.Reckon(x.Op, h.X[x.Rs1], b)
	return h.finish(x.Rd, y, t)
}

// branch executes a branch.
func (h *Hart) branch(x api.Inst, t Trace) Trace {
	taken, _ := alu.Goes(x.Op, h.X[x.Rs1], h.X[x.Rs2])
	if !taken {
		return h.next(t)
	}
	return h.jump(0, h.Pc+x.Imm, t)
}

// jump goes on at target, and keeps in rd where it would have gone on otherwise.
func (h *Hart) jump(rd int, target uint32, t Trace) Trace {
	if isOdd(target, wordSize) {
		return t.trapped(api.FetchOdd, target)
	}
	h.set(rd, h.Pc+wordSize)
	h.Pc = target
	return t
}

// finish sets a register and goes on with the next instruction.
func (h *Hart) finish(rd int, y uint32, t Trace) Trace {
	h.set(rd, y)
	return h.next(t)
}

// next goes on with the next instruction.
func (h *Hart) next(t Trace) Trace {
	h.Pc += wordSize
	return t
}
