package pmp_test

import (
	"math/rand"
	"slices"
	"testing"

	"portico/api"
	"portico/pmp"
)

func mustRun(t *testing.T, l []api.Entry, want ...pmp.Run) {
	t.Helper()
	got := pmp.Runs(l)
	if !slices.Equal(got, want) {
		t.Errorf("%+v: got %+v, want %+v", l, got, want)
	}
	modelOf(t, l).mustBeRuns(t, want)
}

func TestRunsOfNothing(t *testing.T) {
	mustRun(t, nil)
	mustRun(t, []api.Entry{})
	mustRun(t, []api.Entry{{Way: api.Off, Rights: all, Addr: 5}})
	mustRun(t, []api.Entry{{Way: api.Tor, Rights: all, Addr: 0}})
	mustRun(t, []api.Entry{{Way: api.Napot, Rights: 0, Addr: 0x1FFFFFFF}})
	mustRun(t, []api.Entry{{Way: api.Napot, Rights: 0, Addr: 1}, {Way: api.Napot, Rights: all, Addr: 0}})
}

func TestRunsOfOneEntry(t *testing.T) {
	mustRun(t, []api.Entry{{Way: api.Na4, Rights: 1, Addr: 0}}, pmp.Run{From: 0, To: 4, Rights: 1})
	mustRun(t, []api.Entry{{Way: api.Tor, Rights: 2, Addr: 5}}, pmp.Run{From: 0, To: 20, Rights: 2})
	mustRun(t, []api.Entry{{Way: api.Napot, Rights: 5, Addr: 0x200005FF}}, pmp.Run{From: 0x80001000, To: 0x80002000, Rights: 5})
	mustRun(t, []api.Entry{{Way: api.Na4, Rights: 7, Addr: highest}}, pmp.Run{From: two32 - 4, To: two32, Rights: 7})
}

// Addresses from 2^32 on are in no run.
func TestRunsBeyondTheAddresses(t *testing.T) {
	mustRun(t, []api.Entry{{Way: api.Na4, Rights: 7, Addr: two30}})
	mustRun(t, []api.Entry{{Way: api.Napot, Rights: 7, Addr: two30 + 3}})
	mustRun(t, []api.Entry{{Way: api.Napot, Rights: 3, Addr: 0xFFFFFFFF}}, pmp.Run{From: 0, To: two32, Rights: 3})
	mustRun(t, []api.Entry{{Way: api.Tor, Rights: 3, Addr: 0xFFFFFFFF}}, pmp.Run{From: 0, To: two32, Rights: 3})
	mustRun(t, []api.Entry{
		{Way: api.Off, Rights: 0, Addr: highest},
		{Way: api.Tor, Rights: 4, Addr: two30 + 1},
		{Way: api.Tor, Rights: 4, Addr: two30 + 2},
	}, pmp.Run{From: two32 - 4, To: two32, Rights: 4})
	mustRun(t, []api.Entry{
		{Way: api.Na4, Rights: 1, Addr: highest},
		{Way: api.Tor, Rights: 2, Addr: two30},
		{Way: api.Tor, Rights: 1, Addr: two30 + 1},
	}, pmp.Run{From: two32 - 4, To: two32, Rights: 1})
}

// The first entry that matches a byte decides, also if it gives no rights.
func TestRunsOfEntriesInEntries(t *testing.T) {
	mustRun(t, []api.Entry{
		{Way: api.Na4, Rights: 0, Addr: 2},
		{Way: api.Na4, Rights: 1, Addr: 3},
		{Way: api.Na4, Rights: 7, Addr: 3},
		{Way: api.Napot, Rights: 3, Addr: 3},
		{Way: api.Tor, Rights: 3, Addr: 10},
	},
		pmp.Run{From: 0, To: 8, Rights: 3},
		pmp.Run{From: 12, To: 16, Rights: 1},
		pmp.Run{From: 16, To: 40, Rights: 3},
	)
	mustRun(t, []api.Entry{{Way: api.Napot, Rights: 3, Addr: 3}, {Way: api.Na4, Rights: 7, Addr: 2}},
		pmp.Run{From: 0, To: 32, Rights: 3})
}

// Bytes with the same rights are one run, whichever entries give them; bytes with
// other rights, or with none between them, aren't.
func TestRunsAreLong(t *testing.T) {
	mustRun(t, []api.Entry{
		{Way: api.Na4, Rights: 1, Addr: 1},
		{Way: api.Na4, Rights: 1, Addr: 0},
		{Way: api.Na4, Rights: 1, Addr: 2},
		{Way: api.Na4, Rights: 2, Addr: 3},
		{Way: api.Na4, Rights: 2, Addr: 5},
		{Way: api.Na4, Rights: 2, Addr: 6},
		{Way: api.Off, Rights: 2, Addr: 4},
	},
		pmp.Run{From: 0, To: 12, Rights: 1},
		pmp.Run{From: 12, To: 16, Rights: 2},
		pmp.Run{From: 20, To: 28, Rights: 2},
	)
}

func TestRunsOfManyEntries(t *testing.T) {
	var l []api.Entry
	var want []pmp.Run
	for i := range uint64(300) {
		l = append(l, api.Entry{Way: api.Na4, Rights: 1 + int(i%7), Addr: uint32(299 - i)})
		want = append([]pmp.Run{{From: 4 * (299 - i), To: 4 * (300 - i), Rights: 1 + int(i%7)}}, want...)
	}
	mustRun(t, l, want...)
}

func TestRunsReturnsNewMemory(t *testing.T) {
	l := []api.Entry{{Way: api.Na4, Rights: 1, Addr: 1}, {Way: api.Na4, Rights: 2, Addr: 2}}
	first := pmp.Runs(l)
	want := slices.Clone(first)
	second := pmp.Runs(l)
	for i := range second {
		second[i] = pmp.Run{}
	}
	if !slices.Equal(first, want) || !slices.Equal(pmp.Runs(l), want) {
		t.Errorf("got %+v and %+v, want %+v", first, pmp.Runs(l), want)
	}
}

// Every triple of entries in a few words, byte by byte.
func TestEveryRun(t *testing.T) {
	var entries []api.Entry
	for way := range 4 {
		for addr := range uint32(4) {
			for rights := range 3 {
				entries = append(entries, api.Entry{Way: way, Rights: rights, Addr: addr})
			}
		}
	}
	for _, first := range entries {
		for _, second := range entries {
			for _, third := range entries {
				l := []api.Entry{first, second, third}
				if got, want := pmp.Runs(l), slowRuns(t, l, 40); !slices.Equal(got, want) {
					t.Fatalf("%+v: got %+v, want %+v", l, got, want)
				}
			}
		}
	}
}

// slowRuns goes through addresses byte by byte, as far as entries match any.
func slowRuns(t *testing.T, l []api.Entry, end uint64) []pmp.Run {
	t.Helper()
	m := modelOf(t, l)
	var runs []pmp.Run
	before := 0
	for at := range end {
		rights := m.rights(at)
		if rights != 0 && rights == before {
			runs[len(runs)-1].To++
		} else if rights != 0 {
			runs = append(runs, pmp.Run{From: at, To: at + 1, Rights: rights})
		}
		before = rights
	}
	return runs
}

func TestRandomRuns(t *testing.T) {
	r := rand.New(rand.NewSource(5))
	for range 20000 {
		l := randomEntries(r)
		modelOf(t, l).mustBeRuns(t, pmp.Runs(l))
	}
}

// A byte is in a run with a right just if it alone may be accessed with it.
func TestRunsAndCheck(t *testing.T) {
	r := rand.New(rand.NewSource(6))
	for range 2000 {
		l := randomEntries(r)
		runs := pmp.Runs(l)
		for _, edge := range modelOf(t, l).edges() {
			for _, at := range []uint64{edge - 1, edge} {
				for right := 1; right <= 7 && at < two32; right++ {
					if got, want := pmp.Check(l, uint32(at), 1, right), hasAll(rightsIn(runs, at), right); got != want {
						t.Fatalf("%+v: right %d at %x: got %v", l, right, at, got)
					}
				}
			}
		}
	}
}
