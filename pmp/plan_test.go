package pmp_test

import (
	"cmp"
	"math"
	"math/rand"
	"slices"
	"testing"

	"portico/api"
	"portico/pmp"
)

// The entry that ends each plan.
var final = api.Entry{Way: api.Napot, Rights: 0, Addr: 0x1FFFFFFF}

func mustPlan(t *testing.T, l []api.Grant, want ...api.Entry) {
	t.Helper()
	got, e := pmp.Plan(l)
	if e != api.OK || !slices.Equal(got, append(want, final)) {
		t.Errorf("%x: got %x, error %d; want %x and the final one", l, got, e, want)
	}
}

func mustFail(t *testing.T, l []api.Grant, want api.Errno) {
	t.Helper()
	if got, e := pmp.Plan(l); e != want || got != nil {
		t.Errorf("%x: got %x, error %d, want %d", l, got, e, want)
	}
}

// grant returns one with a start, a size and rights.
func grant(start, size uint32, rights int) api.Grant {
	return api.Grant{Start: start, Size: size, Rights: rights}
}

func TestPlan(t *testing.T) {
	mustPlan(t, nil)
	mustPlan(t, []api.Grant{})
	mustPlan(t, []api.Grant{grant(0x80001000, 4096, 5)}, api.Entry{Way: api.Napot, Rights: 5, Addr: 0x200005FF})
	mustPlan(t, []api.Grant{grant(0x80001004, 4, 1)}, api.Entry{Way: api.Na4, Rights: 1, Addr: 0x20000401})
	mustPlan(t, []api.Grant{grant(0x80001000, 12, 3)},
		api.Entry{Way: api.Off, Addr: 0x20000400}, api.Entry{Way: api.Tor, Rights: 3, Addr: 0x20000403})
	// A power of two, but not a multiple of it.
	mustPlan(t, []api.Grant{grant(0x80001004, 8, 6)},
		api.Entry{Way: api.Off, Addr: 0x20000401}, api.Entry{Way: api.Tor, Rights: 6, Addr: 0x20000403})
	mustPlan(t, []api.Grant{grant(0x80001008, 8, 2)}, api.Entry{Way: api.Napot, Rights: 2, Addr: 0x20000402})
	mustPlan(t, []api.Grant{grant(0x80001000, 16, 4)}, api.Entry{Way: api.Napot, Rights: 4, Addr: 0x20000401})
	// A multiple of the size, but no power of two.
	mustPlan(t, []api.Grant{grant(24, 24, 7)},
		api.Entry{Way: api.Off, Addr: 6}, api.Entry{Way: api.Tor, Rights: 7, Addr: 12})
}

func TestPlanAtTheEndsOfTheAddresses(t *testing.T) {
	mustPlan(t, []api.Grant{grant(0, 4, 1)}, api.Entry{Way: api.Na4, Rights: 1, Addr: 0})
	mustPlan(t, []api.Grant{grant(0, 8, 1)}, api.Entry{Way: api.Napot, Rights: 1, Addr: 0})
	mustPlan(t, []api.Grant{grant(0, 12, 1)}, api.Entry{Way: api.Off}, api.Entry{Way: api.Tor, Rights: 1, Addr: 3})
	mustPlan(t, []api.Grant{grant(0, 0x80000000, 1)}, api.Entry{Way: api.Napot, Rights: 1, Addr: 0x0FFFFFFF})
	mustPlan(t, []api.Grant{grant(0x80000000, 0x80000000, 1)}, api.Entry{Way: api.Napot, Rights: 1, Addr: 0x2FFFFFFF})
	mustPlan(t, []api.Grant{grant(0xFFFFFFFC, 4, 1)}, api.Entry{Way: api.Na4, Rights: 1, Addr: 0x3FFFFFFF})
	mustPlan(t, []api.Grant{grant(0xFFFFFFF8, 8, 1)}, api.Entry{Way: api.Napot, Rights: 1, Addr: 0x3FFFFFFE})
	mustPlan(t, []api.Grant{grant(0xFFFFFFF4, 12, 1)},
		api.Entry{Way: api.Off, Addr: 0x3FFFFFFD}, api.Entry{Way: api.Tor, Rights: 1, Addr: 0x40000000})
	mustPlan(t, []api.Grant{grant(4, 0xFFFFFFFC, 7)},
		api.Entry{Way: api.Off, Addr: 1}, api.Entry{Way: api.Tor, Rights: 7, Addr: 0x40000000})
	mustPlan(t, []api.Grant{grant(0, 0xFFFFFFFC, 7)},
		api.Entry{Way: api.Off, Addr: 0}, api.Entry{Way: api.Tor, Rights: 7, Addr: 0x3FFFFFFF})
}

// Each grant has its entries in the order of the grants, also if they overlap.
func TestPlanKeepsTheOrder(t *testing.T) {
	mustPlan(t, []api.Grant{grant(32, 4, 1), grant(0, 12, 2), grant(0, 64, 3), grant(32, 4, 4)},
		api.Entry{Way: api.Na4, Rights: 1, Addr: 8},
		api.Entry{Way: api.Off}, api.Entry{Way: api.Tor, Rights: 2, Addr: 3},
		api.Entry{Way: api.Napot, Rights: 3, Addr: 7},
		api.Entry{Way: api.Na4, Rights: 4, Addr: 8})
}

func TestPlanOfEveryPowerOfTwo(t *testing.T) {
	for size := uint32(8); size != 0; size *= 2 {
		for _, start := range []uint32{0, size, -size} {
			if start == size && size == 1<<31 {
				continue
			}
			mustPlan(t, []api.Grant{grant(start, size, 7)},
				api.Entry{Way: api.Napot, Rights: 7, Addr: start/4 + size/8 - 1})
		}
	}
}

func TestPlanOfInvalidGrants(t *testing.T) {
	for _, g := range []api.Grant{
		grant(1, 4, 1), grant(2, 4, 1), grant(3, 4, 1), grant(0xFFFFFFF9, 4, 1),
		grant(4, 1, 1), grant(4, 2, 1), grant(4, 3, 1), grant(4, 5, 1), grant(4, 6, 1), grant(4, 0xFFFFFFFA, 1),
		grant(2, 2, 1), grant(2, 8, 1), grant(4, 10, 1),
		grant(0, 0, 1), grant(4, 0, 7), grant(0xFFFFFFFC, 0, 7),
		grant(0xFFFFFFFC, 8, 1), grant(8, 0xFFFFFFFC, 1), grant(0xFFFFFFFC, 0xFFFFFFFC, 1),
		grant(0x80000004, 0x80000000, 1), grant(0x80000000, 0x80000004, 1),
		grant(4, 4, 0), grant(4, 4, 8), grant(4, 4, 9), grant(4, 4, -1), grant(4, 4, -7),
		grant(4, 4, 1<<32), grant(4, 4, 1<<32+1), grant(4, 4, math.MinInt), grant(4, 4, math.MaxInt),
		grant(4, 4, math.MinInt+1), grant(4, 4, 256), grant(4, 4, 263),
		{},
	} {
		valid := grant(0x80001000, 4096, 5)
		mustFail(t, []api.Grant{g}, api.ErrArg)
		mustFail(t, []api.Grant{g, valid}, api.ErrArg)
		mustFail(t, []api.Grant{valid, valid, g}, api.ErrArg)
		// An invalid grant is found before the number of entries.
		mustFail(t, append(slices.Repeat([]api.Grant{valid}, 20), g), api.ErrArg)
		mustFail(t, append([]api.Grant{g}, slices.Repeat([]api.Grant{valid}, 20)...), api.ErrArg)
	}
}

func TestPlanOfEveryRight(t *testing.T) {
	for rights := 1; rights <= 7; rights++ {
		mustPlan(t, []api.Grant{grant(4, 4, rights)}, api.Entry{Way: api.Na4, Rights: rights, Addr: 1})
		mustPlan(t, []api.Grant{grant(0, 8, rights)}, api.Entry{Way: api.Napot, Rights: rights, Addr: 0})
		mustPlan(t, []api.Grant{grant(4, 8, rights)},
			api.Entry{Way: api.Off, Addr: 1}, api.Entry{Way: api.Tor, Rights: rights, Addr: 3})
	}
}

func TestPlanOfTooManyEntries(t *testing.T) {
	one, two := grant(4, 4, 1), grant(8, 12, 1)
	for ones := range 20 {
		for twos := range 12 {
			l := append(slices.Repeat([]api.Grant{one}, ones), slices.Repeat([]api.Grant{two}, twos)...)
			n := ones + 2*twos + 1
			if n > 16 {
				mustFail(t, l, api.ErrPlan)
				continue
			}
			if plan, e := pmp.Plan(l); e != api.OK || len(plan) != n || plan[n-1] != final {
				t.Errorf("%d and %d: got %x, error %d", ones, twos, plan, e)
			}
		}
	}
	mustFail(t, slices.Repeat([]api.Grant{one}, 10000), api.ErrPlan)
	mustFail(t, slices.Repeat([]api.Grant{two}, 10000), api.ErrPlan)
}

func TestPlanLeavesItsArgument(t *testing.T) {
	room := []api.Grant{grant(0, 12, 1), grant(16, 4, 2), grant(32, 8, 3), grant(64, 4, 4)}
	before := slices.Clone(room)
	first, _ := pmp.Plan(room[:3])
	want := slices.Clone(first)
	second, _ := pmp.Plan(room[:3])
	for i := range second {
		second[i] = api.Entry{}
	}
	if !slices.Equal(room, before) || !slices.Equal(first, want) {
		t.Errorf("got %x and %x", room, first)
	}
	if again, _ := pmp.Plan(room[:3]); !slices.Equal(again, want) {
		t.Errorf("got %x, want %x", again, want)
	}
}

// mustPermit checks P12.2 for grants that are valid and disjoint; sorted is the
// same grants in the order of their addresses.
func mustPermit(t *testing.T, l, sorted []api.Grant, accesses func(plan []api.Entry) [][2]uint64) {
	t.Helper()
	plan, e := pmp.Plan(l)
	if slowCost(l) > 16 {
		mustFail(t, l, api.ErrPlan)
		return
	}
	if e != api.OK || len(plan) != slowCost(l) {
		t.Fatalf("%x: got %d entries, error %d", l, len(plan), e)
	}
	if got, want := pmp.Runs(plan), merged(sorted); !slices.Equal(got, want) {
		t.Fatalf("%x: got %x, want %x", l, got, want)
	}
	for _, a := range accesses(plan) {
		for right := 1; right <= 7; right++ {
			got := pmp.Check(plan, uint32(a[0]), int(a[1]), right)
			if got != permitted(l, a[0], a[1], right) {
				t.Fatalf("%x: %d bytes from %x on, right %d: got %v", l, a[1], a[0], right, got)
			}
		}
	}
}

// permitted tells whether an access lies in a single grant that has the right.
func permitted(l []api.Grant, at, n uint64, right int) bool {
	return slices.ContainsFunc(l, func(g api.Grant) bool {
		start := uint64(g.Start)
		return at >= start && at+n <= start+uint64(g.Size) && hasAll(g.Rights, right)
	})
}

// merged returns the grants as runs.
func merged(sorted []api.Grant) []pmp.Run {
	var l []pmp.Run
	for _, g := range sorted {
		r := pmp.Run{From: uint64(g.Start), To: uint64(g.Start) + uint64(g.Size), Rights: g.Rights}
		if n := len(l); n > 0 && l[n-1].To == r.From && l[n-1].Rights == r.Rights {
			l[n-1].To = r.To
		} else {
			l = append(l, r)
		}
	}
	return l
}

// slowCost returns how many entries a plan has.
func slowCost(l []api.Grant) int {
	n := 1
	for _, g := range l {
		n += 2
		for size := uint64(4); size < two32; size *= 2 {
			if uint64(g.Size) == size && uint64(g.Start)%size == 0 {
				n--
			}
		}
	}
	return n
}

// Every pair of disjoint grants in a few words, in both orders, with every access
// to them.
func TestEveryPairOfGrants(t *testing.T) {
	const words = 9
	accesses := func([]api.Entry) [][2]uint64 {
		var l [][2]uint64
		for at := range uint64(4*words + 4) {
			for n := uint64(1); n <= 4*words; n += 3 {
				l = append(l, [2]uint64{at, n})
			}
		}
		return l
	}
	for a := range uint32(words) {
		for b := a + 1; b <= words; b++ {
			for c := b; c < words; c++ {
				for d := c + 1; d <= words; d++ {
					for _, rights := range []int{3, 5} {
						low, high := grant(4*a, 4*(b-a), 3), grant(4*c, 4*(d-c), rights)
						sorted := []api.Grant{low, high}
						mustPermit(t, sorted, sorted, accesses)
						mustPermit(t, []api.Grant{high, low}, sorted, accesses)
					}
				}
			}
		}
	}
}

func TestRandomGrants(t *testing.T) {
	r := rand.New(rand.NewSource(7))
	planned := 0
	for range 10000 {
		sorted := randomGrants(r)
		l := slices.Clone(sorted)
		r.Shuffle(len(l), func(i, j int) { l[i], l[j] = l[j], l[i] })
		if slowCost(l) <= 16 {
			planned++
		}
		mustPermit(t, l, sorted, func(plan []api.Entry) [][2]uint64 {
			var accesses [][2]uint64
			edges := modelOf(t, plan).edges()
			for range 40 {
				if at, n, _ := randomAccess(r, edges); n > 0 {
					accesses = append(accesses, [2]uint64{uint64(at), uint64(n)})
				}
			}
			return accesses
		})
	}
	if planned < 5000 {
		t.Errorf("only %d lists had a plan", planned)
	}
}

// randomGrants returns disjoint grants, many of them adjacent, in the order of
// their addresses.
func randomGrants(r *rand.Rand) []api.Grant {
	var cuts []uint64
	for range 1 + r.Intn(16) {
		near := []uint64{0, 1 << 31, 1<<31 + 4096, 1<<32 - 64, uint64(r.Uint32()) &^ 3}[r.Intn(5)]
		step := uint64(4) << r.Intn(5)
		cuts = append(cuts, min(near+step*uint64(r.Intn(8)), two32))
	}
	slices.SortFunc(cuts, cmp.Compare)
	cuts = slices.Compact(cuts)
	var l []api.Grant
	for i := 1; i < len(cuts); i++ {
		size := cuts[i] - cuts[i-1]
		if size < two32 && r.Intn(4) > 0 {
			l = append(l, grant(uint32(cuts[i-1]), uint32(size), 1+r.Intn(7)%3))
		}
	}
	return l
}
