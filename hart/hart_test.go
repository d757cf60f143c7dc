package hart_test

import (
	"testing"

	"portico/api"
	"portico/csr"
	"portico/hart"
	"portico/inst"
	"portico/place"
)

// start is where most of the tests' code stands.
const start = 0x80001000

// encode returns the word of an instruction.
func encode(t *testing.T, x api.Inst) uint32 {
	t.Helper()
	w, ok := inst.Encode(x)
	if !ok {
		t.Fatalf("no word of %+v", x)
	}
	return w
}

// machine returns a state in Machine mode ahead of some words.
func machine(l ...uint32) state {
	return state{pc: start, mode: csr.Machine, at: start, bytes: words(l...)}
}

// user returns a state in User mode, which may do all, ahead of some words.
func user(l ...uint32) state {
	s := machine(l...)
	s.mode = csr.User
	s.entries = []api.Entry{{Way: api.Napot, Rights: 7, Addr: 0x1FFFFFFF}}
	return s
}

// control returns the value of a control and status register.
func control(t *testing.T, h *hart.Hart, n uint32) uint32 {
	t.Helper()
	x, ok := h.F.Read(n)
	if !ok {
		t.Fatalf("register %X doesn't exist", n)
	}
	return x
}

// fails expects a step to trap, and to change nothing but what Trap changes.
func fails(t *testing.T, s state, want hart.Trace) {
	t.Helper()
	s.writes = append([][2]uint32{{csr.Mtvec, 0x80000400}, {csr.Mcycle, 9}, {csr.Minstret, 5}}, s.writes...)
	want.Trap = true
	h, got := check(t, s)
	if got != want {
		t.Fatalf("%X at %X: got %+v, want %+v", s.bytes, s.pc, got, want)
	}
	s.x[0] = 0
	if h.X != s.x || h.Pc != 0x80000400 || h.F.Mode != csr.Machine {
		t.Fatalf("registers %X, Pc %X, mode %d", h.X, h.Pc, h.F.Mode)
	}
	for _, k := range [][2]uint32{
		{csr.Mepc, s.pc / 4 * 4}, {csr.Mcause, want.Cause}, {csr.Mtval, want.Tval}, {csr.Mcycle, 10}, {csr.Minstret, 5},
	} {
		if x := control(t, h, k[0]); x != k[1] {
			t.Fatalf("register %X is %X, want %X", k[0], x, k[1])
		}
	}
}

// goes expects a step without a trap that isn't a load or store, to end at pc.
func goes(t *testing.T, s state, pc uint32) *hart.Hart {
	t.Helper()
	s.writes = append([][2]uint32{{csr.Mcycle, 9}, {csr.Minstret, 5}}, s.writes...)
	h, got := check(t, s)
	if want := (hart.Trace{Word: got.Word}); got != want {
		t.Fatalf("%X: got %+v", s.bytes, got)
	}
	if h.Pc != pc {
		t.Fatalf("%X: goes on at %X, want %X", s.bytes, h.Pc, pc)
	}
	if c, i := control(t, h, csr.Mcycle), control(t, h, csr.Minstret); c != 10 || i != 6 {
		t.Fatalf("%X: %d cycles, %d instructions", s.bytes, c, i)
	}
	return h
}

func TestNew(t *testing.T) {
	m := place.NewMemory()
	h := hart.New(m)
	if h == nil || h.M != m || h.F == nil || h.X != [32]uint32{} || h.Pc != 0 {
		t.Fatalf("got %+v", h)
	}
	fresh := &model{f: csr.New(), ram: make([]byte, size)}
	same(t, h, fresh)
	g := hart.New(m)
	g.F.Write(csr.Mscratch, 5)
	g.X[3] = 4
	same(t, h, fresh)
	if again := hart.New(place.NewMemory()); again.X != [32]uint32{} {
		t.Fatalf("got %+v", again)
	}
}

func TestExample(t *testing.T) {
	h := hart.New(place.NewMemory())
	if e := h.M.Store(0x80000000, 4, 0x00500113); e != api.OK {
		t.Fatal(e)
	}
	h.Pc = 0x80000000
	if got := h.Step(); got != (hart.Trace{Word: 0x00500113}) {
		t.Fatalf("got %+v", got)
	}
	if want := [32]uint32{2: 5}; h.X != want || h.Pc != 0x80000004 {
		t.Fatalf("registers %v, Pc %X", h.X, h.Pc)
	}
}

func TestNil(t *testing.T) {
	var h *hart.Hart
	if got := h.Step(); got != (hart.Trace{}) {
		t.Fatalf("got %+v", got)
	}
}

// A hart without a memory can't fetch, and one whose parts are missing doesn't
// panic.
func TestMissingParts(t *testing.T) {
	h := hart.New(nil)
	h.Pc = 0x80000000
	if got := h.Step(); got != (hart.Trace{Trap: true, Cause: 1, Tval: 0x80000000}) || h.Pc != 0 {
		t.Fatalf("got %+v, Pc %X", got, h.Pc)
	}
	if got := h.Step(); got != (hart.Trace{Trap: true, Cause: 1}) {
		t.Fatalf("got %+v", got)
	}
	for _, g := range []*hart.Hart{{}, {M: place.NewMemory(), Pc: base}, {F: csr.New(), Pc: base}, {Pc: base + 1}} {
		g.Step()
		g.Step()
	}
}

// Modes that the document doesn't name.
func TestOtherModes(t *testing.T) {
	for op := range inst.Ops {
		w, _ := inst.Encode(api.Inst{Op: op})
		for _, mode := range []int{1, 2, 4, -1, 1 << 40} {
			s := user(w)
			s.mode = mode
			h, _ := s.pair(t)
			h.Step()
			h.Step()
		}
	}
}

func TestFetchOdd(t *testing.T) {
	for _, s := range []state{machine(0x00500113, 0x00500113), user(0x00500113, 0x00500113)} {
		for _, pc := range []uint32{start + 1, start + 2, start + 3, 1, 2, 3, 0xFFFFFFFF, base + size - 1, base + size + 2} {
			s.pc = pc
			fails(t, s, hart.Trace{Cause: 0, Tval: pc})
		}
	}
}

func TestFetchOutsideRam(t *testing.T) {
	for _, s := range []state{machine(), user()} {
		for _, pc := range []uint32{0, 4, base - 4, base + size, base + size + 4, 0xFFFFFFFC, 0x7FFF0000} {
			s.pc = pc
			fails(t, s, hart.Trace{Cause: 1, Tval: pc})
		}
	}
}

func TestFetchAtEnds(t *testing.T) {
	for _, s := range []state{machine(0x00500113), user(0x00500113)} {
		for _, pc := range []uint32{base, base + 4, base + size - 8, base + size - 4} {
			s.pc, s.at = pc, pc
			if h := goes(t, s, pc+4); h.X[2] != 5 {
				t.Fatalf("at %X: not executed", pc)
			}
		}
	}
}

// The right to execute is asked of all four bytes, and no other right.
func TestFetchRights(t *testing.T) {
	for right := range 8 {
		s := user(0x00500113)
		s.entries[0].Rights = right
		if right&api.Exec != 0 {
			goes(t, s, start+4)
		} else {
			fails(t, s, hart.Trace{Cause: 1, Tval: start})
		}
	}
	s := user(0x00500113)
	s.entries = nil
	fails(t, s, hart.Trace{Cause: 1, Tval: start})
	for _, end := range []uint32{start, start + 4, start + 8} {
		s.entries = []api.Entry{{Addr: start / 4}, {Way: api.Tor, Rights: api.Exec, Addr: end / 4}}
		if end > start {
			goes(t, s, start+4)
		} else {
			fails(t, s, hart.Trace{Cause: 1, Tval: start})
		}
	}
}

// A locked entry holds for Machine mode too.
func TestFetchLocked(t *testing.T) {
	for _, k := range []struct {
		config uint32
		ok     bool
	}{{0x99, false}, {0x9B, false}, {0x9C, true}, {0x9D, true}, {0x9F, true}, {0x98, false}, {0x18, true}, {0x1B, true}} {
		s := machine(0x00500113)
		s.writes = [][2]uint32{{csr.Pmpaddr, 0x1FFFFFFF}, {csr.Pmpcfg, k.config}}
		if k.ok {
			goes(t, s, start+4)
		} else {
			fails(t, s, hart.Trace{Cause: 1, Tval: start})
		}
	}
}

// The timer comes first, whatever the Pc is, and nothing is fetched.
func TestTimer(t *testing.T) {
	for _, pc := range []uint32{start, start + 2, 0, 3, base + size} {
		for _, k := range []struct {
			mode        int
			status, mie uint32
			pending     bool
			due         bool
		}{
			{csr.User, 0, 0xFFFFFFFF, true, true},
			{csr.User, 8, 0x80, true, true},
			{csr.User, 8, 0x80, false, false},
			{csr.User, 8, 0, true, false},
			{csr.Machine, 8, 0x80, true, true},
			{csr.Machine, 0, 0x80, true, false},
			{csr.Machine, 8, 0x80, false, false},
			{csr.Machine, 8, 0, true, false},
		} {
			s := user(0x00500113)
			s.mode, s.timer, s.pc = k.mode, k.pending, pc
			s.writes = [][2]uint32{{csr.Mstatus, k.status}, {csr.Mie, k.mie}}
			if k.due {
				fails(t, s, hart.Trace{Cause: 0x80000007, Tval: 0})
			} else if pc == start {
				goes(t, s, start+4)
			} else {
				check(t, s)
			}
		}
	}
}

// The timer is taken once: the handler runs with interrupts off.
func TestTimerOnce(t *testing.T) {
	s := user(0x00500113)
	s.timer = true
	s.writes = [][2]uint32{{csr.Mstatus, csr.BitMie}, {csr.Mie, csr.BitTimer}, {csr.Mtvec, start}}
	h, m := s.pair(t)
	if got := both(t, h, m); got != (hart.Trace{Trap: true, Cause: 0x80000007}) || h.X[2] != 0 {
		t.Fatalf("got %+v", got)
	}
	if got := both(t, h, m); got != (hart.Trace{Word: 0x00500113}) || h.X[2] != 5 {
		t.Fatalf("got %+v", got)
	}
}

// Register 0 is 0 whatever is written to it, also from outside.
func TestRegister0(t *testing.T) {
	add := encode(t, api.Inst{Op: inst.Add, Rd: 3, Rs1: 0, Rs2: 0})
	for _, s := range []state{machine(add), user(add)} {
		h, _ := s.pair(t)
		h.X[0], h.X[3] = 9, 9
		h.Step()
		if h.X != [32]uint32{} {
			t.Fatalf("registers %v", h.X)
		}
	}
	for _, x := range []api.Inst{
		{Op: inst.Lui, Imm: 0x5000}, {Op: inst.Auipc, Imm: 0x5000}, {Op: inst.Jal, Imm: 8}, {Op: inst.Jalr, Rs1: 1},
		{Op: inst.Addi, Imm: 7}, {Op: inst.Slli, Rs1: 1, Imm: 1}, {Op: inst.Add, Rs1: 1, Rs2: 1}, {Op: inst.Mul, Rs1: 1, Rs2: 1},
		{Op: inst.Lw, Rs1: 1}, {Op: inst.Lb, Rs1: 1}, {Op: inst.Csrrs, Imm: csr.Misa}, {Op: inst.Csrrwi, Imm: csr.Mscratch, Rs1: 1},
	} {
		s := machine(encode(t, x))
		s.x[1] = start
		h, got := check(t, s)
		if h.X[0] != 0 || h.X[1] != start || got.Trap {
			t.Fatalf("%+v: registers %v, %+v", x, h.X, got)
		}
	}
	h := hart.New(nil)
	h.X[0] = 5
	if h.Step(); h.X[0] != 0 {
		t.Error("register 0 isn't 0 after a trap")
	}
}

// Every opcode with all of its parts set and not: what is no instruction traps.
func TestIllegal(t *testing.T) {
	for _, w := range []uint32{
		0, 0xFFFFFFFF, 1, 2, 3 + 3<<12, 3 + 6<<12, 3 + 7<<12, 0x23 + 3<<12, 0x63 + 2<<12, 0x63 + 3<<12, 0x67 + 1<<12,
		0x02001013, 0x40001013, 0x04000033, 0x40001033, 0x42000033, 0x4073, 0x100F, 0x200073, 0x10200073, 0x30200173,
		0x12000073, 0x4501, 0x0000007B, 0x00500112,
	} {
		for _, s := range []state{machine(w), user(w)} {
			for i := range s.x {
				s.x[i] = uint32(i) * 0x01010101
			}
			fails(t, s, hart.Trace{Word: w, Cause: 2, Tval: w})
		}
	}
}

// Any word of every opcode, in both modes.
func TestEveryOpcode(t *testing.T) {
	for w := range uint32(128 * 8) {
		for _, high := range []uint32{0, 0x00100000, 0x02100000, 0x40100000, 0x30200000, 0x10500000, 0x42000000, 0xFFF00000} {
			for _, s := range []state{machine(w%128 + w/128*4096 + high), user(w%128 + w/128*4096 + high)} {
				s.x[1] = start
				check(t, s)
			}
		}
	}
}
