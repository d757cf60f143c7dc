package pmp_test

import (
	"math/rand"
	"slices"
	"strconv"
	"strings"
	"testing"

	"portico/api"
	"portico/pmp"
)

const (
	all     = api.Read | api.Write | api.Exec
	two30   = 1 << 30 // as a word address: the one after the last word
	two32   = 1 << 32 // as a byte address: the one after the last byte
	highest = two30 - 1
)

// slowRange is the bytes that entry i matches, in the chapter's words; twice an
// address if there are none.
func slowRange(t *testing.T, l []api.Entry, i int) (uint64, uint64) {
	t.Helper()
	own := 4 * uint64(l[i].Addr)
	switch l[i].Way {
	case api.Tor:
		before := uint64(0)
		if i > 0 {
			before = 4 * uint64(l[i-1].Addr)
		}
		if own > before {
			return before, own
		}
		return before, before
	case api.Na4:
		return own, own + 4
	case api.Napot:
		digits := strconv.FormatUint(two32+uint64(l[i].Addr), 2)[1:]
		kept := strings.TrimRight(digits, "1")
		size := uint64(8)
		for range len(digits) - len(kept) {
			kept += "0"
			size += size
		}
		start, err := strconv.ParseUint(kept+"00", 2, 64)
		if err != nil {
			t.Fatal(err)
		}
		return start, start + size
	default:
		return 0, 0
	}
}

// A model holds the ranges of entries.
type model struct {
	l      []api.Entry
	ranges [][2]uint64
}

func modelOf(t *testing.T, l []api.Entry) model {
	t.Helper()
	m := model{l: l}
	for i := range l {
		start, end := slowRange(t, l, i)
		m.ranges = append(m.ranges, [2]uint64{start, end})
	}
	return m
}

func (m model) matches(i int, at uint64) bool {
	return at >= m.ranges[i][0] && at < m.ranges[i][1]
}

// rights returns those of the first entry that matches a byte.
func (m model) rights(at uint64) int {
	for i, e := range m.l {
		if m.matches(i, at) {
			return e.Rights
		}
	}
	return 0
}

// check goes through bytes of the access, one by one: all of a short one,
// otherwise those beside each place where an entry begins or ends, which tell of
// all others.
func (m model) check(at uint32, n int, right int) bool {
	if n <= 0 {
		return false
	}
	first := uint64(at)
	last := first + uint64(n) - 1
	bytes := []uint64{first, last}
	for i := range min(uint64(n), 16) {
		bytes = append(bytes, first+i)
	}
	for _, edge := range m.edges() {
		for _, a := range []uint64{edge - 1, edge} {
			if edge > 0 && a >= first && a <= last {
				bytes = append(bytes, a)
			}
		}
	}
	for i, e := range m.l {
		n := 0
		for _, a := range bytes {
			if m.matches(i, a) {
				n++
			}
		}
		if n > 0 {
			return n == len(bytes) && hasAll(e.Rights, right)
		}
	}
	return false
}

func hasAll(rights, wanted int) bool {
	for bit := range 64 {
		if uint64(wanted)>>bit%2 == 1 && uint64(rights)>>bit%2 == 0 {
			return false
		}
	}
	return true
}

// edges returns the places where entries begin and end, in ascending order.
func (m model) edges() []uint64 {
	var l []uint64
	for _, r := range m.ranges {
		l = append(l, r[0], r[1])
	}
	slices.Sort(l)
	return slices.Compact(l)
}

// mustBeRuns checks that runs are those of the entries: they are in order, as
// long as possible, they begin and end where entries do, and tell the rights of
// the bytes beside each such place.
func (m model) mustBeRuns(t *testing.T, runs []pmp.Run) {
	t.Helper()
	edges := append(m.edges(), 0, two32)
	for i, r := range runs {
		if r.From >= r.To || r.To > two32 || r.Rights < 1 || r.Rights > 7 {
			t.Fatalf("%+v: run %d is %+v", m.l, i, r)
		}
		if !slices.Contains(edges, r.From) || !slices.Contains(edges, r.To) {
			t.Fatalf("%+v: no entry begins or ends where run %+v does", m.l, r)
		}
		if i == 0 {
			continue
		}
		if before := runs[i-1]; before.To > r.From || before.To == r.From && before.Rights == r.Rights {
			t.Fatalf("%+v: run %+v comes after %+v", m.l, r, before)
		}
	}
	for _, edge := range edges {
		for _, at := range []uint64{edge - 1, edge} {
			if at >= two32 {
				continue
			}
			if got, want := rightsIn(runs, at), m.rights(at); got != want {
				t.Fatalf("%+v: rights %d at %x, want %d", m.l, got, at, want)
			}
		}
	}
}

func rightsIn(runs []pmp.Run, at uint64) int {
	for _, r := range runs {
		if at >= r.From && at < r.To {
			return r.Rights
		}
	}
	return 0
}

// randomEntries returns up to 20 entries, mostly near to each other.
func randomEntries(r *rand.Rand) []api.Entry {
	l := make([]api.Entry, r.Intn(21))
	for i := range l {
		l[i] = api.Entry{Way: r.Intn(4), Rights: r.Intn(8), Addr: randomAddr(r)}
		if i > 0 && r.Intn(3) == 0 {
			l[i].Addr = l[i-1].Addr + uint32(r.Intn(9)) - 4
		}
	}
	return l
}

func randomAddr(r *rand.Rand) uint32 {
	switch r.Intn(6) {
	case 0:
		return uint32(r.Intn(16))
	case 1:
		return two30 - 8 + uint32(r.Intn(16))
	case 2:
		return ^uint32(r.Intn(8))
	case 3:
		return 0x20000000 + uint32(r.Intn(64))
	case 4:
		return r.Uint32() | (1<<r.Intn(33) - 1)
	default:
		return 1<<r.Intn(33) - 1
	}
}
