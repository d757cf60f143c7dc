package csr_test

import (
	"math"
	"math/rand"
	"slices"
	"testing"

	"portico/api"
	"portico/csr"
	"portico/pmp"
)

const all = api.Read | api.Write | api.Exec

// somebodysNumber returns the number of a register, at times of none.
func somebodysNumber(r *rand.Rand) uint32 {
	switch r.Intn(8) {
	case 0, 1:
		return csr.Pmpcfg + uint32(r.Intn(5))
	case 2, 3:
		return csr.Pmpaddr + uint32(r.Intn(17))
	case 4:
		return 0xB00 + uint32(r.Intn(2)*0x80+r.Intn(2)*2)
	case 5, 6:
		return plainNumbers[r.Intn(len(plainNumbers))]
	default:
		return uint32(r.Intn(0x1000))
	}
}

func randomEntries(r *rand.Rand, n int) []api.Entry {
	var l []api.Entry
	for range n {
		e := api.Entry{Way: r.Intn(4), Rights: r.Intn(8), Addr: randomAddr(r)}
		if r.Intn(16) == 0 {
			e.Way, e.Rights = int(r.Uint64()), int(r.Uint64())
		}
		l = append(l, e)
	}
	return l
}

// randomAddr returns a word address around 0, RAM or the last word.
func randomAddr(r *rand.Rand) uint32 {
	near := []uint32{0, 0x20000000, 0x20004000, 0x40000000, 0xFFFFFFF8}[r.Intn(5)] + uint32(r.Intn(16))
	return near | 1<<r.Intn(6) - 1
}

func TestConfigBytes(t *testing.T) {
	for i := range uint32(16) {
		for b := range uint32(256) {
			f, m := csr.New(), newModel()
			write(t, f, csr.Pmpcfg+i/4, b<<(8*(i%4)))
			m.configs[i] = byte(b &^ 0x60)
			if b%4 == 2 {
				m.configs[i] &^= 2
			}
			if got := value(t, f, csr.Pmpcfg+i/4); got != uint32(m.configs[i])<<(8*(i%4)) {
				t.Fatalf("entry %d: %X is stored as %X", i, b, got)
			}
			if !slices.Equal(f.Entries(), m.entries()) {
				t.Fatalf("entry %d, byte %X: %v", i, b, f.Entries())
			}
		}
	}
}

func TestConfigExamples(t *testing.T) {
	for _, k := range [][3]uint32{ // stored, written, stored then
		{0, 0x07060504, 0x07040504},
		{0, 0x03020100, 0x03000100},
		{0, 0xFFFFFFFF, 0x9F9F9F9F},
		{0, 0x60606060, 0},
		{0, 0x1A1E1B1F, 0x181C1B1F},
		{0x1F1F1F1F, 0, 0},
		{0x809F8001, 0xFFFFFF18, 0x809F8018},
		{0x80808080, 0xFFFFFFFF, 0x80808080},
		{0x9F000000, 0x00010101, 0x9F010101},
		{0x0000009F, 0x12345678, 0x1014149F},
		{0, 0x82828282, 0x80808080},
	} {
		f := csr.New()
		for n := range uint32(4) {
			write(t, f, csr.Pmpcfg+n, k[0])
			write(t, f, csr.Pmpcfg+n, k[1])
		}
		for n := range uint32(4) {
			if got := value(t, f, csr.Pmpcfg+n); got != k[2] {
				t.Errorf("%X over %X: register %d is %X, want %X", k[1], k[0], n, got, k[2])
			}
		}
	}
}

func TestAddresses(t *testing.T) {
	f, m := csr.New(), newModel()
	for _, x := range []uint32{0xFFFFFFFF, 0, 0x12345677} {
		for i := range uint32(16) {
			write(t, f, csr.Pmpaddr+i, x+i)
			m.addrs[i] = x + i
			same(t, f, m)
		}
	}
}

// An entry's byte may or may not be locked, in each mode, and so may the next
// one's.
func TestLockedAddresses(t *testing.T) {
	for i := range uint32(16) {
		for own := range uint32(32) {
			for next := range uint32(32) {
				f := csr.New()
				write(t, f, csr.Pmpaddr+i, 111)
				bytes := [17]uint32{}
				bytes[i], bytes[i+1] = own/4%4*8|own&1|own>>4<<7, next/4%4*8|next&1|next>>4<<7
				for n := range uint32(4) {
					b := bytes[4*n:]
					write(t, f, csr.Pmpcfg+n, b[0]|b[1]<<8|b[2]<<16|b[3]<<24)
				}
				write(t, f, csr.Pmpaddr+i, 222)
				want := uint32(222)
				if own >= 16 || i < 15 && next >= 16 && next/4%4 == api.Tor {
					want = 111
				}
				if got := value(t, f, csr.Pmpaddr+i); got != want {
					t.Fatalf("entry %d, bytes %X and %X: %d is stored", i, bytes[i], bytes[i+1], got)
				}
			}
		}
	}
}

// A locked byte stays locked, and the first entry doesn't follow the last one.
func TestLocksStay(t *testing.T) {
	f := csr.New()
	write(t, f, csr.Pmpcfg, 0x88)
	write(t, f, csr.Pmpcfg, 0)
	write(t, f, csr.Pmpaddr, 5)
	write(t, f, csr.Pmpaddr+15, 6)
	if value(t, f, csr.Pmpcfg) != 0x88 || value(t, f, csr.Pmpaddr) != 0 || value(t, f, csr.Pmpaddr+15) != 6 {
		t.Errorf("byte %X, addresses %d and %d", value(t, f, csr.Pmpcfg), value(t, f, csr.Pmpaddr), value(t, f, csr.Pmpaddr+15))
	}
}

func TestEntries(t *testing.T) {
	f := csr.New()
	write(t, f, csr.Pmpcfg, 0x9F001B0C)
	write(t, f, csr.Pmpcfg+3, 0x11000000)
	write(t, f, csr.Pmpaddr, 9)
	write(t, f, csr.Pmpaddr+1, 0xFFFFFFFF)
	want := make([]api.Entry, 16)
	want[0] = api.Entry{Way: api.Tor, Rights: api.Exec, Addr: 9}
	want[1] = api.Entry{Way: api.Napot, Rights: api.Read | api.Write, Addr: 0xFFFFFFFF}
	want[3] = api.Entry{Way: api.Napot, Rights: all}
	want[15] = api.Entry{Way: api.Na4, Rights: api.Read}
	got := f.Entries()
	if !slices.Equal(got, want) {
		t.Fatalf("got %v", got)
	}
	for i := range got {
		got[i] = api.Entry{Way: 1, Rights: 1, Addr: 1}
	}
	if !slices.Equal(f.Entries(), want) {
		t.Error("an answer shares memory with the file")
	}
}

func TestProtect(t *testing.T) {
	r := rand.New(rand.NewSource(16))
	for n := range 20 {
		for range 20 {
			f, m := csr.New(), newModel()
			for range 8 { // some are locked ahead
				k, x := somebodysNumber(r), r.Uint32()
				f.Write(k, x)
				m.write(k, x)
			}
			l := append(randomEntries(r, n), api.Entry{Way: 3, Rights: 7, Addr: 42})
			kept := slices.Clone(l)
			got := f.Protect(l[:n])
			if want := m.protect(l[:n]); got != want || (got == api.ErrArg) != (n > 16) {
				t.Fatalf("%d entries: got %v", n, got)
			}
			if !slices.Equal(l, kept) {
				t.Fatal("the argument was changed")
			}
			for i := range l {
				l[i] = api.Entry{Way: 1, Rights: 1, Addr: 1}
			}
			same(t, f, m)
		}
	}
}

func TestProtectUnlocks(t *testing.T) {
	f := csr.New()
	for n := range uint32(4) {
		write(t, f, csr.Pmpcfg+n, 0x9F9F9F9F)
	}
	if e := f.Protect([]api.Entry{{Way: api.Na4, Rights: api.Write, Addr: 7}}); e != api.OK {
		t.Fatal(e)
	}
	if got := value(t, f, csr.Pmpcfg); got != 0x12 || value(t, f, csr.Pmpcfg+3) != 0 || value(t, f, csr.Pmpaddr) != 7 {
		t.Errorf("byte %X, address %d", got, value(t, f, csr.Pmpaddr))
	}
	write(t, f, csr.Pmpcfg, 0x01010101)
	write(t, f, csr.Pmpaddr+15, 8)
	if value(t, f, csr.Pmpcfg) != 0x01010101 || value(t, f, csr.Pmpaddr+15) != 8 {
		t.Error("still locked")
	}
}

func TestProtectNothing(t *testing.T) {
	f := csr.New()
	f.Write(csr.Pmpcfg, 0x9F9F9F9F)
	f.Write(csr.Pmpaddr+9, 4)
	if e := f.Protect(nil); e != api.OK {
		t.Fatal(e)
	}
	same(t, f, newModel())
}

// The bits of an entry that have no place in its byte don't count.
func TestProtectOtherBits(t *testing.T) {
	f := csr.New()
	f.Protect([]api.Entry{{Way: 5, Rights: 8 + 2, Addr: 3}, {Way: -1, Rights: -1, Addr: 4}, {Way: 4, Rights: 1 << 40}})
	want := make([]api.Entry, 16)
	want[0] = api.Entry{Way: 1, Rights: 2, Addr: 3}
	want[1] = api.Entry{Way: 3, Rights: 7, Addr: 4}
	if got := f.Entries(); !slices.Equal(got, want) {
		t.Errorf("got %v", got)
	}
	if got := value(t, f, csr.Pmpcfg); got != 0x1F0A {
		t.Errorf("bytes %X", got)
	}
}

// guarded returns a file with a locked entry, an unlocked one and an empty one,
// in front of a locked one for the rest below 64.
func guarded(t *testing.T) *csr.File {
	f := csr.New()
	for i, addr := range []uint32{4, 6, 5, 7} {
		write(t, f, csr.Pmpaddr+uint32(i), addr)
	}
	// 16 to 20: read, locked; 24 to 28: no right; none: locked; 0 to 64: write and read, locked
	write(t, f, csr.Pmpcfg, 0x9B<<24|0x8F<<16|0x10<<8|0x91)
	return f
}

func TestMay1(t *testing.T) {
	for _, k := range []struct {
		at            uint32
		n, right      int
		user, machine bool
	}{
		{16, 4, api.Read, true, true},
		{16, 4, api.Write, false, false},
		{16, 4, api.Exec, false, false},
		{19, 1, api.Read, true, true},
		{16, 4, 0, true, true},
		{16, 5, 0, false, false},
		{15, 2, api.Read, false, false},
		{24, 4, api.Read, false, true},
		{24, 4, all, false, true},
		{24, 4, 0, true, true},
		{25, 3, api.Exec, false, true},
		{23, 2, api.Read, false, false},
		{24, 5, api.Read, false, false},
		{20, 4, api.Read, true, true},
		{20, 4, api.Read | api.Write, true, true},
		{20, 4, api.Exec, false, false},
		{0, 16, api.Write, true, true},
		{0, 17, api.Write, false, false},
		{28, 36, api.Write, true, true},
		{28, 37, api.Write, false, false},
		{63, 2, api.Read, false, false},
		{64, 1, api.Read, false, true},
		{64, 4, all, false, true},
		{64, math.MaxInt, all, false, true},
		{0x80000000, 4, all, false, true},
		{0xFFFFFFFF, 1, api.Exec, false, true},
		{0xFFFFFFFC, 8, all, false, true}, // it doesn't go on at 0
		{0xFFFFFFFF, math.MaxInt, all, false, true},
		{24, 4, 8, false, true}, // an unlocked entry doesn't restrain the machine
		{24, 4, -1, false, true},
		{16, 4, 8, false, false},
		{16, 4, 8 + 1, false, false},
		{16, 4, 1 << 32, false, false},
		{64, 4, 8, false, true},
	} {
		f := guarded(t)
		if got := f.May1(k.at, k.n, k.right); got != k.machine {
			t.Errorf("Machine, %d bytes from %d on, right %d: got %v", k.n, k.at, k.right, got)
		}
		f.Mode = csr.User
		if got := f.May1(k.at, k.n, k.right); got != k.user {
			t.Errorf("User, %d bytes from %d on, right %d: got %v", k.n, k.at, k.right, got)
		}
	}
}

// An entry that matches no bytes doesn't decide, even inside of the access.
func TestMay1AroundAnEmptyEntry(t *testing.T) {
	f := csr.New()
	write(t, f, csr.Pmpaddr, 2)
	write(t, f, csr.Pmpaddr+1, 1)
	write(t, f, csr.Pmpaddr+2, 1)
	write(t, f, csr.Pmpcfg, 0x8888<<8|0x80)
	if !f.May1(0, 64, all) {
		t.Error("an empty entry restrains the machine")
	}
	write(t, f, csr.Pmpaddr+5, 0)
	write(t, f, csr.Pmpcfg+1, 0x9100)
	if f.May1(0, 64, api.Read) || !f.May1(4, 60, all) {
		t.Error("an entry behind empty ones doesn't count")
	}
}

func TestMay1WithoutEntries(t *testing.T) {
	f := csr.New()
	for _, at := range []uint32{0, 1, 0x80000000, 0xFFFFFFFF} {
		for _, n := range []int{1, 4, 1 << 32, math.MaxInt} {
			f.Mode = csr.Machine
			if !f.May1(at, n, all) {
				t.Errorf("Machine may not access %d bytes from %X on", n, at)
			}
			f.Mode = csr.User
			if f.May1(at, n, all) || f.May1(at, n, 0) {
				t.Errorf("User may access %d bytes from %X on", n, at)
			}
		}
	}
}

func TestMay1OfNoBytes(t *testing.T) {
	f := csr.New()
	f.Protect([]api.Entry{{Way: api.Napot, Rights: all, Addr: 0xFFFFFFFF}})
	for _, mode := range []int{csr.User, csr.Machine} {
		f.Mode = mode
		for _, n := range []int{0, -1, -4, math.MinInt} {
			if f.May1(0x80000000, n, api.Read) || f.May1(0, n, 0) {
				t.Errorf("mode %d may access %d bytes", mode, n)
			}
		}
	}
}

// User mode gets what layer 12 says of the plan of some grants.
func TestMay1OfAPlan(t *testing.T) {
	l, e := pmp.Plan([]api.Grant{{Start: 0x80001000, Size: 4096, Rights: 5}, {Start: 0x80002000, Size: 12, Rights: 3}})
	f := csr.New()
	if e != api.OK || f.Protect(l) != api.OK {
		t.Fatal("no plan")
	}
	for _, k := range []struct {
		at    uint32
		right int
		user  bool
	}{
		{0x80001000, api.Exec, true}, {0x80001FFC, api.Read, true}, {0x80001FFC, api.Write, false}, {0x80000FFC, api.Read, false},
		{0x80002000, api.Write, true}, {0x80002008, api.Read, true}, {0x8000200C, api.Read, false}, {0x80002000, api.Exec, false}, {0x80001FFE, api.Read, false},
	} {
		f.Mode = csr.User
		if got := f.May1(k.at, 4, k.right); got != k.user {
			t.Errorf("User, %X, right %d: got %v", k.at, k.right, got)
		}
		f.Mode = csr.Machine
		if got := f.May1(k.at, 4, k.right); got != (k.at != 0x80001FFE) {
			t.Errorf("Machine, %X, right %d: got %v", k.at, k.right, got)
		}
	}
}

// Every access to a few words, under every pair of entries in front of a locked
// one, byte by byte.
func TestEveryAccess(t *testing.T) {
	for _, first := range smallConfigs() {
		for _, second := range smallConfigs() {
			f, m := csr.New(), newModel()
			for i, k := range [][2]uint32{first, second, {0x99, 3}} {
				f.Write(csr.Pmpaddr+uint32(i), k[1])
				m.addrs[i], m.configs[i] = k[1], byte(k[0])
			}
			f.Write(csr.Pmpcfg, 0x99<<16|second[0]<<8|first[0])
			decides := deciders(m)
			for at := range uint32(37) {
				for n := 1; n <= 9; n++ {
					for _, right := range []int{api.Read, api.Write} {
						want := decided(m, decides, int(at), n, right)
						if f.Mode = csr.Machine; f.May1(at, n, right) != want {
							t.Fatalf("%X and %X: Machine, %d bytes from %d on, right %d", first, second, n, at, right)
						}
						if m.may1(at, n, right) != want {
							t.Fatalf("%X and %X: the model, %d bytes from %d on, right %d", first, second, n, at, right)
						}
					}
				}
			}
		}
	}
}

// smallConfigs returns configuration bytes and addresses of entries for a few
// words.
func smallConfigs() [][2]uint32 {
	var l [][2]uint32
	for _, b := range []uint32{0x80, 0x88, 0x09, 0x91, 0x11, 0x90, 0x98, 0x18, 0x99} {
		for addr := range uint32(5) {
			l = append(l, [2]uint32{b, addr})
		}
	}
	return l
}

// deciders returns, for each entry and each of the first bytes, whether it is
// matched.
func deciders(m *model) [16][64]bool {
	var l [16][64]bool
	for i := range l {
		start, end := m.span(i)
		for at := start; at < min(end, 64); at++ {
			l[i][at] = true
		}
	}
	return l
}

// decided is what the chapter says of an access in Machine mode, in its words.
func decided(m *model, matched [16][64]bool, at, n, right int) bool {
	for i := range matched {
		if !slices.Contains(matched[i][at:at+n], true) {
			continue
		}
		locked := m.configs[i] >= 0x80
		return !slices.Contains(matched[i][at:at+n], false) && (!locked || hasAll(int(m.configs[i]%8), right))
	}
	return true
}
