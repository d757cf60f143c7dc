package csr_test

import (
	"math/rand"
	"testing"

	"portico/csr"
)

func TestTrap(t *testing.T) {
	for _, k := range []struct {
		mode          int
		before, after uint32 // Mstatus
	}{
		{csr.User, 0, 0},
		{csr.User, csr.BitMie, csr.BitMpie},
		{csr.User, csr.BitMpie, 0},
		{csr.User, csr.BitMie | csr.BitMpie | csr.BitsMpp, csr.BitMpie},
		{csr.Machine, 0, csr.BitsMpp},
		{csr.Machine, csr.BitMie, csr.BitMpie | csr.BitsMpp},
		{csr.Machine, csr.BitMpie, csr.BitsMpp},
		{csr.Machine, csr.BitMie | csr.BitMpie | csr.BitsMpp, csr.BitMpie | csr.BitsMpp},
	} {
		f := csr.New()
		write(t, f, csr.Mstatus, k.before)
		write(t, f, csr.Mtvec, 0x80000103)
		f.Mode = k.mode
		if got := f.Trap(0x80001237, 0x80000007, 0xABCDEF01); got != 0x80000100 {
			t.Errorf("%+v: goes on at %X", k, got)
		}
		if f.Mode != csr.Machine || value(t, f, csr.Mstatus) != k.after {
			t.Errorf("%+v: mode %d, Mstatus %X", k, f.Mode, value(t, f, csr.Mstatus))
		}
		if value(t, f, csr.Mepc) != 0x80001234 || value(t, f, csr.Mcause) != 0x80000007 || value(t, f, csr.Mtval) != 0xABCDEF01 {
			t.Errorf("%+v: Mepc %X, Mcause %X, Mtval %X", k, value(t, f, csr.Mepc), value(t, f, csr.Mcause), value(t, f, csr.Mtval))
		}
	}
}

func TestBack(t *testing.T) {
	for _, k := range []struct {
		before, after uint32 // Mstatus
		mode          int
	}{
		{0, csr.BitMpie, csr.User},
		{csr.BitMie, csr.BitMpie, csr.User},
		{csr.BitMpie, csr.BitMie | csr.BitMpie, csr.User},
		{csr.BitsMpp, csr.BitMpie, csr.Machine},
		{csr.BitsMpp | csr.BitMie, csr.BitMpie, csr.Machine},
		{csr.BitsMpp | csr.BitMie | csr.BitMpie, csr.BitMie | csr.BitMpie, csr.Machine},
		{0x800, csr.BitMpie, csr.User},
		{0x1000, csr.BitMpie, csr.User},
	} {
		f, m := csr.New(), newModel()
		for _, n := range []uint32{csr.Mepc, csr.Mtvec, csr.Mcause, csr.Mtval} {
			write(t, f, n, 0x80004567+n)
			m.write(n, 0x80004567+n)
		}
		write(t, f, csr.Mstatus, k.before)
		m.write(csr.Mstatus, k.before)
		if got, want := f.Back(), m.back(); got != want || got != 0x800048A8 {
			t.Errorf("%+v: goes on at %X", k, got)
		}
		if f.Mode != k.mode || value(t, f, csr.Mstatus) != k.after {
			t.Errorf("%+v: mode %d, Mstatus %X", k, f.Mode, value(t, f, csr.Mstatus))
		}
		same(t, f, m)
	}
}

// Two ways back: the second one always leads to User mode, with interrupts as
// the first one left them behind.
func TestBackTwice(t *testing.T) {
	f := csr.New()
	f.Trap(8, 2, 0)
	f.Back()
	if f.Mode != csr.Machine || value(t, f, csr.Mstatus) != csr.BitMpie {
		t.Errorf("mode %d, Mstatus %X", f.Mode, value(t, f, csr.Mstatus))
	}
	if at := f.Back(); at != 8 || f.Mode != csr.User || value(t, f, csr.Mstatus) != csr.BitMie|csr.BitMpie {
		t.Errorf("at %X, mode %d, Mstatus %X", at, f.Mode, value(t, f, csr.Mstatus))
	}
}

// A trap within a trap forgets User mode.
func TestTrapTwice(t *testing.T) {
	f := csr.New()
	write(t, f, csr.Mstatus, csr.BitMie)
	f.Mode = csr.User
	f.Trap(0x100, 8, 0)
	f.Trap(0x200, 2, 3)
	if value(t, f, csr.Mstatus) != csr.BitsMpp || value(t, f, csr.Mepc) != 0x200 {
		t.Errorf("Mstatus %X, Mepc %X", value(t, f, csr.Mstatus), value(t, f, csr.Mepc))
	}
	if f.Back() != 0x200 || f.Mode != csr.Machine {
		t.Errorf("mode %d", f.Mode)
	}
}

func TestTimer(t *testing.T) {
	f, m := csr.New(), newModel()
	for _, on := range []bool{false, true, true, false, false, true} {
		f.Timer(on)
		m.timer(on)
		same(t, f, m)
		if got := value(t, f, csr.Mip); got != 0 && got != csr.BitTimer || (got != 0) != on {
			t.Errorf("Mip is %X", got)
		}
	}
}

func TestDue(t *testing.T) {
	for _, enabled := range []bool{false, true} {
		for _, pending := range []bool{false, true} {
			for _, mode := range []int{csr.User, csr.Machine} {
				for _, mie := range []bool{false, true} {
					f := csr.New()
					f.Mode = mode
					f.Timer(pending)
					write(t, f, csr.Mstatus, csr.BitMpie)
					if mie {
						write(t, f, csr.Mstatus, csr.BitMie)
					}
					write(t, f, csr.Mie, ^uint32(csr.BitTimer))
					if enabled {
						write(t, f, csr.Mie, csr.BitTimer)
					}
					want := enabled && pending && (mode == csr.User || mie)
					if got := f.Due(); got != want {
						t.Errorf("enabled %v, pending %v, mode %d, MIE %v: got %v", enabled, pending, mode, mie, got)
					}
				}
			}
		}
	}
}

// P15.2, while all else happens between a trap and the way back.
func TestBackRestores(t *testing.T) {
	r := rand.New(rand.NewSource(152))
	for range 3000 {
		f := csr.New()
		write(t, f, csr.Mstatus, r.Uint32())
		for range r.Intn(4) {
			f.Write(somebodysNumber(r), r.Uint32())
		}
		f.Mode = []int{csr.User, csr.Machine}[r.Intn(2)]
		mode, mie := f.Mode, value(t, f, csr.Mstatus)&csr.BitMie
		pc := r.Uint32()
		f.Trap(pc, r.Uint32(), r.Uint32())
		if f.Mode != csr.Machine || value(t, f, csr.Mstatus)&csr.BitMie != 0 {
			t.Fatal("the trap isn't in Machine mode without interrupts")
		}
		for range r.Intn(6) {
			between(f, r)
		}
		at := f.Back()
		if at != pc&^3 || f.Mode != mode || value(t, f, csr.Mstatus)&csr.BitMie != mie {
			t.Fatalf("from %X, mode %d, MIE %X: at %X, mode %d, Mstatus %X", pc, mode, mie, at, f.Mode, value(t, f, csr.Mstatus))
		}
	}
}

// between makes a call that leaves Mepc, Mstatus and the mode.
func between(f *csr.File, r *rand.Rand) {
	switch r.Intn(7) {
	case 0:
		f.Timer(r.Intn(2) == 0)
	case 1:
		f.Tick(r.Intn(2) == 0)
	case 2:
		f.Protect(randomEntries(r, r.Intn(18)))
	case 3:
		f.Due()
		f.Entries()
	case 4:
		f.May1(r.Uint32(), r.Intn(9), r.Intn(8))
	default:
		if n := somebodysNumber(r); n != csr.Mepc && n != csr.Mstatus {
			f.Write(n, r.Uint32())
		}
	}
}

// Modes that don't exist are unspecified, but nobody gains rights by them.
func TestOtherModes(t *testing.T) {
	for _, mode := range []int{1, 2, 4, 7, -1, 1 << 40, -1 << 63} {
		f := csr.New()
		f.Mode = mode
		if f.May(csr.Mstatus) || f.May1(0x80000000, 4, 1) {
			t.Errorf("mode %d may do what Machine may", mode)
		}
		f.Due()
		f.Trap(0, 0, 0)
		if f.Mode != csr.Machine || value(t, f, csr.Mstatus) != 0 {
			t.Errorf("mode %d: Mstatus %X after a trap", mode, value(t, f, csr.Mstatus))
		}
		if f.Back(); f.Mode != csr.User {
			t.Errorf("mode %d: back to %d", mode, f.Mode)
		}
	}
}
