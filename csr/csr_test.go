package csr_test

import (
	"testing"

	"portico/csr"
)

// value returns a register that must exist.
func value(t *testing.T, f *csr.File, n uint32) uint32 {
	t.Helper()
	x, ok := f.Read(n)
	if !ok {
		t.Fatalf("register %X doesn't exist", n)
	}
	return x
}

// write writes a register that must be writable.
func write(t *testing.T, f *csr.File, n, x uint32) {
	t.Helper()
	if !f.Write(n, x) {
		t.Fatalf("register %X isn't writable", n)
	}
}

func TestConstants(t *testing.T) {
	for i, k := range [][2]uint32{
		{csr.Mstatus, 0x300}, {csr.Misa, 0x301}, {csr.Mie, 0x304}, {csr.Mtvec, 0x305},
		{csr.Mscratch, 0x340}, {csr.Mepc, 0x341}, {csr.Mcause, 0x342}, {csr.Mtval, 0x343}, {csr.Mip, 0x344},
		{csr.Pmpcfg, 0x3A0}, {csr.Pmpaddr, 0x3B0},
		{csr.Mcycle, 0xB00}, {csr.Minstret, 0xB02}, {csr.Cycleh, 0xB80}, {csr.Instreth, 0xB82}, {csr.Vendor, 0xF11},
		{csr.IsaBits, 0x40101100}, {csr.BitMie, 8}, {csr.BitMpie, 0x80}, {csr.BitsMpp, 0x1800}, {csr.BitTimer, 0x80},
		{csr.User, 0}, {csr.Machine, 3},
	} {
		if k[0] != k[1] {
			t.Errorf("constant %d is %X, want %X", i, k[0], k[1])
		}
	}
}

func TestNew(t *testing.T) {
	f := csr.New()
	if f == nil || f.Mode != csr.Machine {
		t.Fatalf("got %+v", f)
	}
	same(t, f, newModel())
	g := csr.New()
	g.Write(csr.Mscratch, 5)
	g.Mode = csr.User
	same(t, f, newModel())
}

func TestExample(t *testing.T) {
	f := csr.New()
	if !f.Write(0x300, 0xFFFFFFFF) {
		t.Fatal("not written")
	}
	if x, ok := f.Read(0x300); x != 0x1888 || !ok {
		t.Fatalf("got %X, %v", x, ok)
	}
}

func TestMstatus(t *testing.T) {
	for _, k := range [][2]uint32{
		{0, 0}, {8, 8}, {0x80, 0x80}, {0x88, 0x88}, {0x800, 0}, {0x1000, 0}, {0x1800, 0x1800},
		{0x888, 0x88}, {0x1088, 0x88}, {0x1888, 0x1888}, {0xFFFFE777, 0}, {0xFFFFFFF7, 0x1880}, {0xFFFFF7FF, 0x88},
	} {
		for _, before := range []uint32{0, 0xFFFFFFFF} {
			f := csr.New()
			write(t, f, csr.Mstatus, before)
			write(t, f, csr.Mstatus, k[0])
			if got := value(t, f, csr.Mstatus); got != k[1] {
				t.Errorf("%X is stored as %X, want %X", k[0], got, k[1])
			}
		}
	}
	f, m := csr.New(), newModel()
	for x := range uint32(1 << 14) {
		f.Write(csr.Mstatus, x)
		m.write(csr.Mstatus, x)
		if got := value(t, f, csr.Mstatus); got != m.plain[csr.Mstatus] {
			t.Fatalf("%X is stored as %X", x, got)
		}
	}
}

// All registers that hold a part of the bits that are written, each bit alone
// and each one missing.
func TestSingleRegisters(t *testing.T) {
	for _, k := range []struct{ n, stored uint32 }{
		{csr.Mie, 0x80},
		{csr.Mtvec, 0xFFFFFFFC},
		{csr.Mepc, 0xFFFFFFFC},
		{csr.Mscratch, 0xFFFFFFFF},
		{csr.Mcause, 0xFFFFFFFF},
		{csr.Mtval, 0xFFFFFFFF},
		{csr.Mcycle, 0xFFFFFFFF},
		{csr.Cycleh, 0xFFFFFFFF},
		{csr.Minstret, 0xFFFFFFFF},
		{csr.Instreth, 0xFFFFFFFF},
	} {
		f, m := csr.New(), newModel()
		for p := range 32 {
			for _, x := range []uint32{1 << p, ^(uint32(1) << p)} {
				write(t, f, k.n, x)
				m.write(k.n, x)
				if got := value(t, f, k.n); got != x&k.stored {
					t.Errorf("register %X: %X is stored as %X", k.n, x, got)
				}
				if p%8 == 0 {
					same(t, f, m)
				}
			}
		}
	}
}

func TestRegistersWithoutEffect(t *testing.T) {
	for _, x := range []uint32{0, 0x80, 0xFFFFFFFF} {
		for _, pending := range []bool{false, true} {
			f, m := csr.New(), newModel()
			f.Timer(pending)
			m.timer(pending)
			write(t, f, csr.Misa, x)
			write(t, f, csr.Mip, x)
			same(t, f, m)
		}
	}
}

// Every number is written once, into an otherwise fresh file.
func TestEveryNumber(t *testing.T) {
	exist, writable := 0, 0
	for _, n := range allNumbers {
		for _, x := range []uint32{0xFFFFFFFF, 0x12345679} {
			f, m := csr.New(), newModel()
			want := m.write(n, x)
			if got := f.Write(n, x); got != want {
				t.Errorf("write to %X: got %v", n, got)
			}
			if want || n%0x100 == 0 {
				same(t, f, m)
			}
			if want {
				writable++
			}
			if _, ok := f.Read(n); ok {
				exist++
			}
		}
	}
	if writable != 2*33 || exist != 2*37 {
		t.Errorf("%d registers, of which %d are writable", exist/2, writable/2)
	}
}

func TestVendor(t *testing.T) {
	f := csr.New()
	for n := uint32(csr.Vendor); n <= 0xF14; n++ {
		if f.Write(n, 1) {
			t.Errorf("%X is writable", n)
		}
		if x, ok := f.Read(n); x != 0 || !ok {
			t.Errorf("%X: got %X, %v", n, x, ok)
		}
	}
	for _, n := range []uint32{0xF10, 0xF15} {
		if _, ok := f.Read(n); ok || f.Write(n, 1) {
			t.Errorf("%X exists", n)
		}
	}
}

func TestMay(t *testing.T) {
	f := csr.New()
	for _, n := range allNumbers {
		f.Mode = csr.Machine
		if !f.May(n) {
			t.Errorf("Machine may not access %X", n)
		}
		f.Mode = csr.User
		if got, want := f.May(n), n/0x100%4 == 0; got != want {
			t.Errorf("User, %X: got %v", n, got)
		}
	}
	for p := range 32 {
		if got := f.May(1 << p); got == (p == 8 || p == 9) {
			t.Errorf("User, bit %d: got %v", p, got)
		}
		if got := f.May(0xFFFFFCFF &^ (1 << p)); !got {
			t.Errorf("User, all other bits but %d: got %v", p, got)
		}
	}
}

// Read and Write don't ask for the mode: layer 16 asks May.
func TestAccessInUserMode(t *testing.T) {
	f := csr.New()
	f.Mode = csr.User
	write(t, f, csr.Mscratch, 77)
	write(t, f, csr.Pmpaddr+3, 78)
	if value(t, f, csr.Mscratch) != 77 || value(t, f, csr.Pmpaddr+3) != 78 {
		t.Error("not written in User mode")
	}
}

func TestTick(t *testing.T) {
	const most = 0xFFFFFFFF
	for _, k := range []struct {
		cycles, instrets [2]uint32 // lower and upper half
		done             bool
		afterC, afterI   [2]uint32
	}{
		{[2]uint32{0, 0}, [2]uint32{0, 0}, true, [2]uint32{1, 0}, [2]uint32{1, 0}},
		{[2]uint32{0, 0}, [2]uint32{0, 0}, false, [2]uint32{1, 0}, [2]uint32{0, 0}},
		{[2]uint32{most, 0}, [2]uint32{most, 7}, true, [2]uint32{0, 1}, [2]uint32{0, 8}},
		{[2]uint32{most, 3}, [2]uint32{most, 7}, false, [2]uint32{0, 4}, [2]uint32{most, 7}},
		{[2]uint32{most, most}, [2]uint32{most, most}, true, [2]uint32{0, 0}, [2]uint32{0, 0}},
		{[2]uint32{most, most}, [2]uint32{most, most}, false, [2]uint32{0, 0}, [2]uint32{most, most}},
		{[2]uint32{most - 1, most}, [2]uint32{5, most}, true, [2]uint32{most, most}, [2]uint32{6, most}},
	} {
		f := csr.New()
		write(t, f, csr.Cycleh, k.cycles[1])
		write(t, f, csr.Mcycle, k.cycles[0])
		write(t, f, csr.Minstret, k.instrets[0])
		write(t, f, csr.Instreth, k.instrets[1])
		f.Tick(k.done)
		gotC := [2]uint32{value(t, f, csr.Mcycle), value(t, f, csr.Cycleh)}
		gotI := [2]uint32{value(t, f, csr.Minstret), value(t, f, csr.Instreth)}
		if gotC != k.afterC || gotI != k.afterI {
			t.Errorf("%+v: got %X and %X", k, gotC, gotI)
		}
	}
}

// A write to a half of a counter leaves the other half and the other counter.
func TestHalves(t *testing.T) {
	f := csr.New()
	halves := []uint32{csr.Mcycle, csr.Cycleh, csr.Minstret, csr.Instreth}
	for i, n := range halves {
		write(t, f, n, uint32(0xF0000001+i))
	}
	for i, n := range halves {
		if got := value(t, f, n); got != uint32(0xF0000001+i) {
			t.Errorf("register %X is %X", n, got)
		}
	}
}

func TestNil(t *testing.T) {
	var f *csr.File
	for _, n := range allNumbers {
		if x, ok := f.Read(n); x != 0 || ok || f.Write(n, 1) || f.May(n) {
			t.Fatalf("register %X of nil", n)
		}
	}
	f.Timer(true)
	f.Timer(false)
	f.Tick(true)
	f.Tick(false)
	if f.Due() || f.Trap(4, 5, 6) != 0 || f.Back() != 0 || f.Entries() != nil {
		t.Error("a nil file answers")
	}
	if f.Protect(nil) != 1 || f.Protect(newModel().entries()) != 1 || f.Protect(append(newModel().entries(), newModel().entries()...)) != 1 {
		t.Error("a nil file takes entries")
	}
	for _, n := range []int{0, 1, -1, 4} {
		if f.May1(0x80000000, n, 1) || f.May1(0, n, 0) {
			t.Error("a nil file permits an access")
		}
	}
}
