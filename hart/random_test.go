package hart_test

import (
	"bytes"
	"math/rand"
	"testing"

	"portico/api"
	"portico/csr"
	"portico/hart"
	"portico/inst"
	"portico/place"
	"portico/pmp"
)

// randomInst returns an instruction whose registers and immediates are often
// small.
func randomInst(r *rand.Rand) api.Inst {
	for {
		x := api.Inst{Op: 1 + r.Intn(inst.Ops-1), Rd: r.Intn(32), Rs1: r.Intn(32), Rs2: r.Intn(32)}
		if r.Intn(2) == 0 {
			x.Rd, x.Rs1, x.Rs2 = r.Intn(8), r.Intn(8), r.Intn(8)
		}
		switch form := inst.Form(x.Op); form {
		case inst.FormU:
			x.Rs1, x.Rs2, x.Imm = 0, 0, r.Uint32()<<12
		case inst.FormJ:
			x.Rs1, x.Rs2, x.Imm = 0, 0, 2*uint32(r.Intn(128)-64)
		case inst.FormI:
			x.Rs2, x.Imm = 0, uint32(r.Intn(64)-32)
		case inst.FormB:
			x.Rd, x.Imm = 0, 2*uint32(r.Intn(64)-32)
		case inst.FormS:
			x.Rd, x.Imm = 0, uint32(r.Intn(64)-32)
		case inst.FormT:
			x.Rs2, x.Imm = 0, uint32(r.Intn(32))
		case inst.FormN:
			x = api.Inst{Op: x.Op}
		case inst.FormC, inst.FormZ:
			x.Rs2, x.Imm = 0, randomNumber(r)
			x.Rs1 *= r.Intn(2)
		}
		if w, ok := inst.Encode(x); ok && w != 0 {
			return x
		}
	}
}

// randomNumber returns the number of a control and status register, mostly of
// one that exists.
func randomNumber(r *rand.Rand) uint32 {
	if r.Intn(10) == 0 {
		return uint32(r.Intn(4096))
	}
	return allNumbers[r.Intn(len(allNumbers))]
}

func randomWord(t *testing.T, r *rand.Rand) uint32 {
	w := encode(t, randomInst(r))
	switch r.Intn(12) {
	case 0:
		return w ^ 1<<r.Intn(32)
	case 1:
		return r.Uint32()
	default:
		return w
	}
}

// randomAddress returns an address in the code, in the data, or at an end of RAM.
func randomAddress(r *rand.Rand) uint32 {
	near := uint32(r.Intn(24) - 12)
	if r.Intn(4) > 0 {
		near = near / 4 * 4
	}
	switch r.Intn(6) {
	case 0:
		return base + near
	case 1:
		return base + size + near
	case 2:
		return start + near
	case 3:
		return near
	default:
		return dataAt + near
	}
}

// randomEntries returns entries that match some of the addresses.
func randomEntries(r *rand.Rand) []api.Entry {
	var l []api.Entry
	if r.Intn(3) > 0 {
		l = append(l, api.Entry{Way: api.Napot, Rights: 4 + r.Intn(4), Addr: start/4 | 0x3F})
	}
	for range r.Intn(14) {
		e := api.Entry{Way: r.Intn(4), Rights: r.Intn(8), Addr: randomAddress(r) / 4}
		if e.Way == api.Napot && r.Intn(2) == 0 {
			e.Addr |= 1<<r.Intn(20) - 1
		}
		l = append(l, e)
	}
	if r.Intn(2) == 0 {
		l = append(l, api.Entry{Way: api.Napot, Rights: []int{4, 5, 7}[r.Intn(3)], Addr: 0x1FFFFFFF})
	}
	return l
}

func randomState(t *testing.T, r *rand.Rand) state {
	s := state{pc: start, mode: []int{csr.User, csr.Machine}[r.Intn(2)], at: base, bytes: make([]byte, size)}
	r.Read(s.bytes)
	for i := range 64 {
		at := start - base - 128 + 4*i
		copy(s.bytes[at:], words(randomWord(t, r)))
	}
	for i := 1; i < 32; i++ {
		s.x[i] = randomAddress(r)
		if r.Intn(4) == 0 {
			s.x[i] = r.Uint32() >> r.Intn(32)
		}
	}
	s.entries = randomEntries(r)
	s.timer = r.Intn(3) == 0
	s.writes = [][2]uint32{{csr.Mtvec, start + 4*uint32(r.Intn(16))}, {csr.Mepc, start + 4*uint32(r.Intn(16))}}
	if r.Intn(3) == 0 {
		s.writes = append(s.writes, [2]uint32{csr.Mie, r.Uint32()}, [2]uint32{csr.Mstatus, r.Uint32()})
	}
	for range r.Intn(3) {
		s.writes = append(s.writes, [2]uint32{randomNumber(r), r.Uint32()})
	}
	if r.Intn(3) == 0 {
		s.pc = randomAddress(r)
	}
	return s
}

// An outcome is what was executed in a mode, and how it ended.
type outcome struct {
	op, mode, cause int // the cause is -1 if there was no trap
}

func outcomeOf(t hart.Trace, mode int) outcome {
	o := outcome{op: inst.Decode(t.Word).Op, mode: mode, cause: -1}
	if t.Trap {
		o.cause = int(t.Cause)
	}
	return o
}

func TestRandomSteps(t *testing.T) {
	r := rand.New(rand.NewSource(16))
	operations, causes := map[outcome]int{}, map[outcome]int{}
	for range 1500 {
		h, m := randomState(t, r).pair(t)
		for range 40 {
			mode := h.F.Mode
			got := both(t, h, m)
			o := outcomeOf(got, mode)
			operations[outcome{op: o.op, mode: mode}]++
			causes[outcome{cause: o.cause, mode: mode}]++
			if r.Intn(8) == 0 || got.Trap && got.Word == 0 {
				wander(r, h, m)
			}
		}
	}
	for _, mode := range []int{csr.User, csr.Machine} {
		for op := 1; op < inst.Ops; op++ {
			if n := operations[outcome{op: op, mode: mode}]; n < 25 {
				t.Errorf("operation %d was executed only %d times in mode %d", op, n, mode)
			}
		}
		for _, cause := range []int{0, 1, 2, 3, 4, 5, 6, 7, 0x80000007} {
			if n := causes[outcome{cause: cause, mode: mode}]; n < 25 {
				t.Errorf("cause %X was met only %d times in mode %d", cause, n, mode)
			}
		}
	}
}

// wander changes both alike, as whoever has a hart may.
func wander(r *rand.Rand, h *hart.Hart, m *model) {
	switch r.Intn(5) {
	case 0, 1:
		h.Pc = start + 4*uint32(r.Intn(32))
		m.pc = h.Pc
		h.F.Mode = []int{csr.User, csr.Machine}[r.Intn(2)]
		m.f.Mode = h.F.Mode
	case 2:
		on := r.Intn(2) == 0
		h.F.Timer(on)
		m.f.Timer(on)
	case 3:
		h.F.Write(csr.Mstatus, csr.BitMie)
		m.f.Write(csr.Mstatus, csr.BitMie)
	default:
		i := 1 + r.Intn(31)
		h.X[i] = randomAddress(r)
		m.x[i] = h.X[i]
	}
}

// A hart's steps depend on nothing but what it has: two harts that take turns do
// the same as one alone.
func TestTwoHarts(t *testing.T) {
	r := rand.New(rand.NewSource(17))
	for range 30 {
		s, other := randomState(t, r), randomState(t, r)
		h, m := s.pair(t)
		g, n := other.pair(t)
		for range 30 {
			both(t, h, m)
			both(t, g, n)
		}
	}
}

// P16.2: whatever code runs in User mode, only bytes of grants with the right to
// write change, and only by the store that the trace tells.
func TestUserMemory(t *testing.T) {
	r := rand.New(rand.NewSource(18))
	stores := 0
	for range 150 {
		s := randomState(t, r)
		grants := randomGrants(r)
		plan, e := pmp.Plan(grants)
		if e != api.OK {
			t.Fatal(e)
		}
		s.entries, s.mode, s.writes = plan, csr.User, nil
		h, _ := s.pair(t)
		for range 100 {
			if r.Intn(2) == 0 {
				x := api.Inst{Op: inst.Sb + r.Intn(3), Rs1: r.Intn(32), Rs2: r.Intn(32), Imm: uint32(r.Intn(16) - 8)}
				h.M.Store(h.Pc, 4, encode(t, x))
			}
			before := contents(t, h.M)
			got := h.Step()
			after := contents(t, h.M)
			mustKeep(t, before, after, got, grants)
			if got.Store && !got.Trap {
				stores++
			}
			h.F.Mode = csr.User
			if got.Trap || r.Intn(8) == 0 {
				h.Pc = start + 4*uint32(r.Intn(32))
			}
		}
	}
	if stores < 300 {
		t.Errorf("only %d stores", stores)
	}
}

// randomGrants returns grants that have no byte in common, one of them the code's.
func randomGrants(r *rand.Rand) []api.Grant {
	l := []api.Grant{{Start: start - 128, Size: 256, Rights: 4 + r.Intn(4)}}
	for _, at := range []uint32{base, dataAt - 16, dataAt, base + size - 16} {
		l = append(l, api.Grant{Start: at, Size: 4 * uint32(1+r.Intn(4)), Rights: 1 + r.Intn(7)})
	}
	return l
}

func mustKeep(t *testing.T, before, after []byte, got hart.Trace, grants []api.Grant) {
	t.Helper()
	if bytes.Equal(before, after) && !got.Store {
		return
	}
	stored := got.Store && !got.Trap
	for i := range before {
		at := base + uint32(i)
		inside := stored && at >= got.At && at < got.At+uint32(got.Width)
		if before[i] != after[i] && !inside {
			t.Fatalf("%+v changed %X", got, at)
		}
		if inside && !writable(grants, at) {
			t.Fatalf("%+v wrote %X, which isn't granted", got, at)
		}
	}
	if stored && (got.At < base || got.At > base+size-uint32(got.Width)) {
		t.Fatalf("%+v isn't in RAM", got)
	}
}

func writable(grants []api.Grant, at uint32) bool {
	for _, g := range grants {
		if at >= g.Start && at-g.Start < g.Size && g.Rights&api.Write != 0 {
			return true
		}
	}
	return false
}

// New harts on one memory see each other's stores.
func TestSharedMemory(t *testing.T) {
	m := place.NewMemory()
	g, h := hart.New(m), hart.New(m)
	m.Store(start, 4, encode(t, api.Inst{Op: inst.Sw, Rs1: 1, Rs2: 2}))
	m.Store(start+4, 4, encode(t, api.Inst{Op: inst.Lw, Rd: 3, Rs1: 1}))
	g.Pc, g.X[1], g.X[2] = start, dataAt, 0xABCDEF01
	h.Pc, h.X[1] = start+4, dataAt
	g.Step()
	if h.Step(); h.X[3] != 0xABCDEF01 {
		t.Errorf("loaded %X", h.X[3])
	}
}
