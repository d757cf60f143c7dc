package hart_test

import (
	"testing"

	"portico/api"
	"portico/csr"
	"portico/hart"
	"portico/inst"
)

// The operations that access memory, with their widths.
var accesses = []struct {
	op, width int
	store     bool
}{
	{inst.Lb, 1, false}, {inst.Lh, 2, false}, {inst.Lw, 4, false}, {inst.Lbu, 1, false}, {inst.Lhu, 2, false},
	{inst.Sb, 1, true}, {inst.Sh, 2, true}, {inst.Sw, 4, true},
}

// accessing returns an instruction with the address in register 5 plus imm, and
// register 6 as its other register.
func accessing(op int, store bool, imm uint32) api.Inst {
	if store {
		return api.Inst{Op: op, Rs1: 5, Rs2: 6, Imm: imm}
	}
	return api.Inst{Op: op, Rs1: 5, Rd: 6, Imm: imm}
}

// data is what stands at base + 0x2000.
var data = []byte{0x81, 0x92, 0xA3, 0xB4, 0x15, 0x26, 0x37, 0x48}

const dataAt = base + 0x2000

// withData returns a state with data in memory, and one instruction.
func withData(s state, w uint32) state {
	s.at, s.bytes = start, append(words(w), make([]byte, dataAt-start-4)...)
	s.bytes = append(s.bytes, data...)
	return s
}

func TestLoads(t *testing.T) {
	for _, k := range []struct {
		op   int
		at   uint32
		want uint32
	}{
		{inst.Lb, 0, 0xFFFFFF81}, {inst.Lb, 1, 0xFFFFFF92}, {inst.Lb, 3, 0xFFFFFFB4}, {inst.Lb, 4, 0x15}, {inst.Lb, 7, 0x48},
		{inst.Lbu, 0, 0x81}, {inst.Lbu, 1, 0x92}, {inst.Lbu, 4, 0x15},
		{inst.Lh, 0, 0xFFFF9281}, {inst.Lh, 2, 0xFFFFB4A3}, {inst.Lh, 4, 0x2615}, {inst.Lhu, 0, 0x9281}, {inst.Lhu, 6, 0x4837},
		{inst.Lw, 0, 0xB4A39281}, {inst.Lw, 4, 0x48372615},
	} {
		for _, imm := range []uint32{0, 1, 2047, 0xFFFFFFFF, 0xFFFFF800} {
			w := encode(t, accessing(k.op, false, imm))
			for _, s := range []state{machine(), user()} {
				s = withData(s, w)
				s.x[5], s.x[6] = dataAt+k.at-imm, 0x77777777
				h, got := check(t, s)
				want := hart.Trace{Word: w, At: dataAt + k.at, Width: width(k.op)}
				s.x[6] = k.want
				if got != want || h.X != s.x || h.Pc != start+4 {
					t.Errorf("operation %d at %d: %+v, registers %X", k.op, k.at, got, h.X)
				}
			}
		}
	}
}

func TestStores(t *testing.T) {
	for _, k := range []struct {
		op   int
		at   uint32
		want [8]byte
	}{
		{inst.Sb, 0, [8]byte{0xD8, 0x92, 0xA3, 0xB4, 0x15, 0x26, 0x37, 0x48}},
		{inst.Sb, 3, [8]byte{0x81, 0x92, 0xA3, 0xD8, 0x15, 0x26, 0x37, 0x48}},
		{inst.Sb, 5, [8]byte{0x81, 0x92, 0xA3, 0xB4, 0x15, 0xD8, 0x37, 0x48}},
		{inst.Sh, 0, [8]byte{0xD8, 0xC7, 0xA3, 0xB4, 0x15, 0x26, 0x37, 0x48}},
		{inst.Sh, 2, [8]byte{0x81, 0x92, 0xD8, 0xC7, 0x15, 0x26, 0x37, 0x48}},
		{inst.Sw, 0, [8]byte{0xD8, 0xC7, 0xB6, 0xA5, 0x15, 0x26, 0x37, 0x48}},
		{inst.Sw, 4, [8]byte{0x81, 0x92, 0xA3, 0xB4, 0xD8, 0xC7, 0xB6, 0xA5}},
	} {
		for _, imm := range []uint32{0, 1, 2047, 0xFFFFFFFF, 0xFFFFF800} {
			w := encode(t, accessing(k.op, true, imm))
			for _, s := range []state{machine(), user()} {
				s = withData(s, w)
				s.x[5], s.x[6] = dataAt+k.at-imm, 0xA5B6C7D8
				h, got := check(t, s)
				want := hart.Trace{Word: w, At: dataAt + k.at, Width: width(k.op), Store: true}
				b, _ := h.M.Get(dataAt, 8)
				if got != want || [8]byte(b) != k.want || h.X != s.x || h.Pc != start+4 {
					t.Errorf("operation %d at %d: %+v, %X, registers %X", k.op, k.at, got, b, h.X)
				}
			}
		}
	}
}

func width(op int) int {
	for _, k := range accesses {
		if k.op == op {
			return k.width
		}
	}
	return 0
}

// Register 0 can be stored, be the address, and be what is loaded into.
func TestAccessWithRegister0(t *testing.T) {
	s := withData(machine(), encode(t, api.Inst{Op: inst.Sw, Rs1: 5, Rs2: 0}))
	s.x[5] = dataAt
	h, _ := check(t, s)
	if x, _ := h.M.Load(dataAt, 4); x != 0 {
		t.Errorf("stored %X", x)
	}
	w := encode(t, api.Inst{Op: inst.Lw, Rd: 5, Rs1: 5})
	s = withData(machine(), w)
	s.x[5] = dataAt
	if h, _ = check(t, s); h.X[5] != 0xB4A39281 {
		t.Errorf("registers %X", h.X)
	}
	for _, x := range []api.Inst{{Op: inst.Lw, Rd: 0, Rs1: 0}, {Op: inst.Lw, Rd: 0, Rs1: 0, Imm: 0xFFFFFFFC}} {
		fails(t, machine(encode(t, x)), hart.Trace{Word: encode(t, x), Cause: 5, Tval: x.Imm, At: x.Imm, Width: 4})
	}
}

// What isn't a multiple of the width traps before anything else is asked, also
// where there is no memory.
func TestOddAccess(t *testing.T) {
	for _, k := range accesses {
		for _, from := range []uint32{dataAt, 0, base - 4, base + size - 4, base + size, 0xFFFFFFFC} {
			for d := range uint32(4) {
				if d%uint32(k.width) == 0 {
					continue
				}
				x := accessing(k.op, k.store, 0)
				want := hart.Trace{Word: encode(t, x), Cause: 4, Tval: from + d, At: from + d, Width: k.width, Store: k.store}
				if k.store {
					want.Cause = 6
				}
				for _, s := range []state{machine(want.Word), user(want.Word)} {
					s.x[5], s.x[6] = from+d, 0x1234567
					fails(t, s, want)
				}
			}
		}
	}
}

// The sum of register and immediate counts, not the register.
func TestOddSum(t *testing.T) {
	s := withData(machine(), encode(t, accessing(inst.Lw, false, 3)))
	s.x[5] = dataAt + 1
	if h, got := check(t, s); got.Trap || h.X[6] != 0x48372615 {
		t.Errorf("%+v", got)
	}
	s.x[5] = dataAt
	if _, got := check(t, s); got.Cause != 4 || got.Tval != dataAt+3 {
		t.Errorf("%+v", got)
	}
}

// fault returns the trap of an access that isn't permitted.
func fault(w uint32, width int, store bool, at uint32) hart.Trace {
	want := hart.Trace{Word: w, Cause: 5, Tval: at, At: at, Width: width, Store: store}
	if store {
		want.Cause = 7
	}
	return want
}

// The first and last bytes of RAM, and the ones beside them.
func TestAccessAtEnds(t *testing.T) {
	for _, k := range accesses {
		w := encode(t, accessing(k.op, k.store, 0))
		n := uint32(k.width)
		for _, s := range []state{machine(w), user(w)} {
			s.x[6] = 0xA5B6C7D8
			for _, at := range []uint32{base, base + n, base + size - n, base + size - 2*n} {
				s.x[5] = at
				if _, got := check(t, s); got.Trap {
					t.Errorf("operation %d at %X: %+v", k.op, at, got)
				}
			}
			for _, at := range []uint32{0, base - n, base - 4, base + size, base + size + 4, 0x80020000, 0 - n, 0x7FFFFFFC, 0x00001000} {
				s.x[5] = at
				fails(t, s, fault(w, k.width, k.store, at))
			}
		}
	}
}

// An address beyond 2^32 goes on at 0.
func TestAddressWraps(t *testing.T) {
	w := encode(t, accessing(inst.Lw, false, 4))
	s := machine(w)
	s.x[5] = 0xFFFFFFFC
	fails(t, s, fault(w, 4, false, 0))
	w = encode(t, accessing(inst.Sw, true, 0xFFFFF800))
	s = machine(w)
	s.x[5] = 0x400
	fails(t, s, fault(w, 4, true, 0xFFFFFC00))
}

// In User mode a load needs the right to read all its bytes, and a store the
// right to write them; other rights don't matter.
func TestAccessRights(t *testing.T) {
	for _, k := range accesses {
		w := encode(t, accessing(k.op, k.store, 0))
		for right := range 8 {
			s := withData(user(), w)
			s.x[5], s.x[6] = dataAt, 0x99
			s.entries = []api.Entry{{Way: api.Napot, Rights: right, Addr: dataAt / 4}, {Way: api.Napot, Rights: 4, Addr: 0x1FFFFFFF}}
			needed := api.Read
			if k.store {
				needed = api.Write
			}
			if right&needed == 0 {
				fails(t, s, fault(w, k.width, k.store, dataAt))
			} else if _, got := check(t, s); got.Trap {
				t.Errorf("operation %d, right %d: %+v", k.op, right, got)
			}
		}
	}
}

// Without an entry User mode may do nothing, and Machine mode all.
func TestAccessWithoutEntry(t *testing.T) {
	for _, k := range accesses {
		w := encode(t, accessing(k.op, k.store, 0))
		s := withData(user(), w)
		s.entries = []api.Entry{{Way: api.Na4, Rights: 4, Addr: start / 4}}
		s.x[5] = dataAt
		fails(t, s, fault(w, k.width, k.store, dataAt))
		s.mode = csr.Machine
		if _, got := check(t, s); got.Trap {
			t.Errorf("operation %d: %+v", k.op, got)
		}
	}
}

// A locked entry without rights holds for Machine mode too.
func TestAccessLocked(t *testing.T) {
	for _, k := range accesses {
		w := encode(t, accessing(k.op, k.store, 0))
		for _, config := range []uint32{0x18, 0x98, 0x99, 0x9B, 0x9C, 0x9D} {
			s := withData(machine(), w)
			s.x[5] = dataAt
			s.writes = [][2]uint32{{csr.Pmpaddr, dataAt / 4}, {csr.Pmpcfg, config}}
			permitted := config == 0x18 || config == 0x9B || !k.store && config&1 != 0
			if !permitted {
				fails(t, s, fault(w, k.width, k.store, dataAt))
			} else if _, got := check(t, s); got.Trap {
				t.Errorf("operation %d, %X: %+v", k.op, config, got)
			}
		}
	}
}

// Bytes next to what is granted.
func TestAccessBesideGrant(t *testing.T) {
	for _, k := range accesses {
		w := encode(t, accessing(k.op, k.store, 0))
		for d := range uint32(24) {
			s := withData(user(), w)
			s.x[5], s.x[6] = dataAt-8+d, 0xA5B6C7D8
			s.entries = []api.Entry{{Way: api.Napot, Rights: 3, Addr: dataAt / 4}, {Way: api.Na4, Rights: 4, Addr: start / 4}}
			_, got := check(t, s)
			if permitted := d >= 8 && d < 16 && d%uint32(k.width) == 0; got.Trap == permitted {
				t.Errorf("operation %d, %d: %+v", k.op, d, got)
			}
		}
	}
}

// Code that is stored is what is executed afterwards.
func TestStoredCode(t *testing.T) {
	s := user(encode(t, api.Inst{Op: inst.Sw, Rs1: 5, Rs2: 6}), encode(t, api.Inst{Op: inst.Ebreak}))
	s.x[5], s.x[6] = start+4, 0x00500113
	h, m := s.pair(t)
	both(t, h, m)
	if got := both(t, h, m); got.Word != 0x00500113 || h.X[2] != 5 {
		t.Errorf("%+v", got)
	}
}
