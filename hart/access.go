package hart

import (
	"portico/alu"
	"portico/api"
)

// load executes a load.
func (h *Hart) load(x api.Inst, t Trace) Trace {
	t.At = h.X[x.Rs1] + x.Imm
	t.Width = alu.Width(x.Op)
	if isOdd(t.At, t.Width) {
		return t.trapped(api.LoadOdd, t.At)
	}
	if !h.may(t.At, t.Width, api.Read) {
		return t.trapped(api.LoadFault, t.At)
	}
	y, _ := h.M.Load(t.At, t.Width)
	return h.finish(x.Rd, alu.Widen(x.Op, y), t)
}

// store executes a store.
func (h *Hart) store(x api.Inst, t Trace) Trace {
	t.At = h.X[x.Rs1] + x.Imm
	t.Width = alu.Width(x.Op)
	t.Store = true
	if isOdd(t.At, t.Width) {
		return t.trapped(api.StoreOdd, t.At)
	}
	if !h.may(t.At, t.Width, api.Write) {
		return t.trapped(api.StoreFault, t.At)
	}
	h.M.Store(t.At, t.Width, h.X[x.Rs2])
	return h.next(t)
}
