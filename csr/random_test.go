package csr_test

import (
	"math/rand"
	"testing"

	"portico/csr"
)

// All calls in any order, against the model.
func TestRandomCalls(t *testing.T) {
	r := rand.New(rand.NewSource(15))
	for range 150 {
		f, m := csr.New(), newModel()
		for range 60 {
			call(t, f, m, r)
		}
		same(t, f, m)
	}
}

func call(t *testing.T, f *csr.File, m *model, r *rand.Rand) {
	t.Helper()
	on, x := r.Intn(2) == 0, r.Uint32()
	switch r.Intn(12) {
	case 0:
		f.Timer(on)
		m.timer(on)
	case 1:
		f.Tick(on)
		m.tick(on)
	case 2:
		if got, want := f.Trap(x, x/3, x/5), m.trap(x, x/3, x/5); got != want {
			t.Fatalf("trap: got %X, want %X", got, want)
		}
	case 3:
		if got, want := f.Back(), m.back(); got != want {
			t.Fatalf("back: got %X, want %X", got, want)
		}
	case 4:
		l := randomEntries(r, r.Intn(18))
		if got, want := f.Protect(l), m.protect(l); got != want {
			t.Fatalf("protect with %d entries: got %v, want %v", len(l), got, want)
		}
	case 5:
		f.Mode = []int{csr.User, csr.Machine}[r.Intn(2)]
		m.mode = f.Mode
	case 6:
		same(t, f, m)
	case 7, 8:
		for range 20 {
			access(t, f, m, r)
		}
	default:
		n := somebodysNumber(r)
		if got, want := f.Write(n, x), m.write(n, x); got != want {
			t.Fatalf("write to %X: got %v", n, got)
		}
		if got, want := f.May(n), m.may(n); got != want {
			t.Fatalf("may %X: got %v", n, got)
		}
	}
}

// access asks for an access near to an edge of an entry.
func access(t *testing.T, f *csr.File, m *model, r *rand.Rand) {
	t.Helper()
	start, end := m.span(r.Intn(16))
	at := uint32(start) + uint32(r.Intn(9)) - 4
	n := 1 + r.Intn(8)
	switch r.Intn(3) {
	case 0:
		at = uint32(end) + uint32(r.Intn(9)) - 4
	case 1:
		if end > start {
			n = int(end-start) + r.Intn(3)
		}
	}
	right := r.Intn(9)
	if got, want := f.May1(at, n, right), m.may1(at, n, right); got != want {
		t.Fatalf("%+v, mode %d: %d bytes from %X on, right %d: got %v", m.entries(), m.mode, n, at, right, got)
	}
}
