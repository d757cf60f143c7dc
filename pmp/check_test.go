package pmp_test

import (
	"math"
	"math/rand"
	"testing"

	"portico/api"
	"portico/pmp"
)

func TestCheck(t *testing.T) {
	l := []api.Entry{
		{Way: api.Na4, Rights: api.Read, Addr: 4},                       // 16 to 20
		{Way: api.Tor, Rights: api.Write, Addr: 3},                      // none
		{Way: api.Off, Rights: all, Addr: 2},                            // none
		{Way: api.Tor, Rights: api.Read | api.Write, Addr: 8},           // 8 to 32
		{Way: api.Napot, Rights: api.Read | api.Exec, Addr: 0x1FFFFFFF}, // 0 to 2^32
	}
	for _, k := range []struct {
		at       uint32
		n, right int
		want     bool
	}{
		{16, 4, api.Read, true},
		{16, 1, api.Read, true},
		{19, 1, api.Read, true},
		{16, 4, api.Write, false}, // the first entry decides
		{16, 5, api.Read, false},  // not all of its bytes match
		{15, 2, api.Read, false},
		{12, 16, api.Read, false},
		{8, 8, api.Read, true},
		{8, 8, api.Write, true},
		{8, 8, api.Read | api.Write, true},
		{8, 8, api.Exec, false},
		{8, 8, all, false},
		{8, 9, api.Read, false},
		{7, 2, api.Read, false},
		{20, 12, api.Write, true},
		{20, 13, api.Read, false},
		{31, 2, api.Read, false},
		{0, 8, api.Read | api.Exec, true},
		{0, 8, api.Write, false},
		{0, 9, api.Read, false},
		{32, 4, api.Exec, true},
		{32, 1 << 20, api.Exec, true},
		{0xFFFFFFFC, 4, api.Read, true},
		{0xFFFFFFFF, 1, api.Read, true},
		{0xFFFFFFFF, 2, api.Read, false},
		{0xFFFFFFFC, 5, api.Read, false},
		{32, two32 - 32, api.Read, true},
		{32, two32 - 31, api.Read, false},
		{0, two32, api.Read, false},
	} {
		if got := pmp.Check(l, k.at, k.n, k.right); got != k.want {
			t.Errorf("%d bytes from %x on, right %d: got %v", k.n, k.at, k.right, got)
		}
		if modelOf(t, l).check(k.at, k.n, k.right) != k.want {
			t.Errorf("%d bytes from %x on, right %d: the model says %v", k.n, k.at, k.right, !k.want)
		}
	}
}

func TestCheckWithoutMatch(t *testing.T) {
	for _, l := range [][]api.Entry{
		nil,
		{{Way: api.Off, Rights: all, Addr: 0}},
		{{Way: api.Tor, Rights: all, Addr: 0}},
		{{Way: api.Na4, Rights: all, Addr: 2}, {Way: api.Tor, Rights: all, Addr: 2}},
		{{Way: api.Napot, Rights: all, Addr: 2}},
		{{Way: api.Off, Rights: all, Addr: 1}, {Way: api.Tor, Rights: all, Addr: 0xFFFFFFFF}},
		{{Way: api.Na4, Rights: all, Addr: two30}},
	} {
		for right := range 8 {
			if pmp.Check(l, 0, 4, right) {
				t.Errorf("%+v: right %d is permitted", l, right)
			}
		}
	}
}

// An entry that matches no bytes doesn't decide, even inside of the access.
func TestCheckAroundAnEmptyEntry(t *testing.T) {
	whole := api.Entry{Way: api.Napot, Rights: all, Addr: 7}
	for _, l := range [][]api.Entry{
		{{Way: api.Off, Addr: 1}, {Way: api.Tor, Addr: 1}, whole},
		{{Way: api.Off, Addr: 2}, {Way: api.Tor, Addr: 1}, whole},
		{{Way: api.Off, Addr: 1}, whole},
		{{Way: api.Tor, Addr: 0}, whole},
	} {
		if !pmp.Check(l, 0, 64, all) {
			t.Errorf("%+v: not permitted", l)
		}
	}
}

// Without any rights, an access may be made wherever an entry matches all of it.
func TestCheckOfNoRight(t *testing.T) {
	l := []api.Entry{{Way: api.Na4, Rights: 0, Addr: 1}, {Way: api.Napot, Rights: 1, Addr: 0}}
	for at := range uint32(12) {
		for n := range 12 {
			last := int(at) + n - 1
			want := n > 0 && (last < 4 || at >= 4 && last < 8)
			if got := pmp.Check(l, at, n, 0); got != want {
				t.Errorf("%d bytes from %d on: got %v", n, at, got)
			}
		}
	}
}

func TestCheckRights(t *testing.T) {
	for has := range 8 {
		l := []api.Entry{{Way: api.Na4, Rights: has, Addr: 0}, {Way: api.Napot, Rights: all, Addr: 0}}
		for wanted := -16; wanted <= 16; wanted++ {
			if got, want := pmp.Check(l, 0, 4, wanted), hasAll(has, wanted); got != want {
				t.Errorf("rights %d, wanted %d: got %v", has, wanted, got)
			}
		}
		for _, wanted := range []int{math.MinInt, math.MaxInt, -1, 8, 1 << 32, 1<<32 + 1} {
			if pmp.Check(l, 0, 4, wanted) {
				t.Errorf("rights %d: %d is permitted", has, wanted)
			}
		}
	}
}

func TestCheckOfOtherSizes(t *testing.T) {
	l := []api.Entry{{Way: api.Napot, Rights: all, Addr: 0xFFFFFFFF}}
	for _, at := range []uint32{0, 4, 0x80000000, 0xFFFFFFFF} {
		for _, n := range []int{0, -1, -4, math.MinInt, math.MinInt + 1, -two32, math.MaxInt, math.MaxInt - 1, 1<<35 + 1} {
			if pmp.Check(l, at, n, api.Read) {
				t.Errorf("%d bytes from %x on are permitted", n, at)
			}
		}
	}
}

// Addresses above 32 bits aren't reduced, so an access doesn't wrap around.
func TestCheckBeyondTheAddresses(t *testing.T) {
	top := api.Entry{Way: api.Napot, Rights: all, Addr: highest &^ 1} // the last 8 bytes
	bottom := api.Entry{Way: api.Napot, Rights: all, Addr: 0}
	if pmp.Check([]api.Entry{top, bottom}, 0xFFFFFFFC, 8, api.Read) {
		t.Error("an access wraps around")
	}
	wide := []api.Entry{{Way: api.Napot, Rights: all, Addr: 0xFFFFFFFF}}
	if !pmp.Check(wide, 0xFFFFFFFC, 8, api.Read) || !pmp.Check(wide, 0, 1<<35, api.Read) {
		t.Error("an entry doesn't match beyond 32 bits")
	}
}

// More entries than a machine has count too.
func TestCheckOfManyEntries(t *testing.T) {
	var l []api.Entry
	for i := range 100 {
		l = append(l, api.Entry{Way: api.Na4, Rights: 1 + i%7, Addr: uint32(i)})
	}
	for i := range 100 {
		if !pmp.Check(l, uint32(4*i), 4, 1+i%7) {
			t.Errorf("entry %d doesn't permit its bytes", i)
		}
	}
}

// Every access to a few words, under every pair of entries.
func TestEveryAccess(t *testing.T) {
	var entries []api.Entry
	for way := range 4 {
		for addr := range uint32(5) {
			entries = append(entries, api.Entry{Way: way, Rights: api.Read, Addr: addr}, api.Entry{Way: way, Addr: addr})
		}
	}
	for _, first := range entries {
		for _, second := range entries {
			l := []api.Entry{first, second, {Way: api.Napot, Rights: api.Read | api.Write, Addr: 3}}
			m := modelOf(t, l)
			for at := range uint32(20) {
				for n := range 12 {
					if got, want := pmp.Check(l, at, n, api.Read), m.check(at, n, api.Read); got != want {
						t.Fatalf("%+v, %d bytes from %d on: got %v", l, n, at, got)
					}
				}
			}
		}
	}
}

func TestRandomChecks(t *testing.T) {
	r := rand.New(rand.NewSource(4))
	permitted := 0
	for range 20000 {
		l := randomEntries(r)
		m := modelOf(t, l)
		for range 20 {
			at, n, right := randomAccess(r, m.edges())
			want := m.check(at, n, right)
			if got := pmp.Check(l, at, n, right); got != want {
				t.Fatalf("%+v, %d bytes from %x on, right %d: got %v", l, n, at, right, got)
			}
			if want {
				permitted++
			}
		}
	}
	if permitted < 20000 {
		t.Errorf("only %d accesses were permitted", permitted)
	}
}

// randomAccess returns an access that begins or ends near to an edge, if there is
// one.
func randomAccess(r *rand.Rand, edges []uint64) (uint32, int, int) {
	right := r.Intn(8)
	if r.Intn(16) == 0 {
		right = r.Intn(40) - 16
	}
	if len(edges) == 0 {
		return r.Uint32(), r.Intn(8), right
	}
	edge := edges[r.Intn(len(edges))]
	if other := edges[r.Intn(len(edges))]; other > edge && edge < two32 && r.Intn(2) == 0 {
		return uint32(edge), int(other-edge) + r.Intn(3) - 1, right
	}
	return uint32(edge) + uint32(r.Intn(17)) - 8, r.Intn(10), right
}
