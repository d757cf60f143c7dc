package pmp_test

import (
	"math"
	"math/rand"
	"slices"
	"testing"

	"portico/api"
	"portico/pmp"
)

func TestRange(t *testing.T) {
	l := []api.Entry{
		0:  {Way: api.Tor, Rights: 7, Addr: 0},
		1:  {Way: api.Tor, Rights: 7, Addr: 3},
		2:  {Way: api.Tor, Rights: 0, Addr: 3},
		3:  {Way: api.Tor, Rights: 7, Addr: 2},
		4:  {Way: api.Off, Rights: 7, Addr: 5},
		5:  {Way: api.Tor, Rights: 7, Addr: 6},
		6:  {Way: api.Na4, Rights: 7, Addr: 9},
		7:  {Way: api.Tor, Rights: 7, Addr: 10},
		8:  {Way: api.Napot, Rights: 7, Addr: 0x200005FF},
		9:  {Way: api.Tor, Rights: 7, Addr: 0x20000600},
		10: {Way: api.Napot, Rights: 0, Addr: 0},
		11: {Way: api.Napot, Rights: 7, Addr: 1},
		12: {Way: api.Napot, Rights: 7, Addr: 0x1FFFFFFF},
		13: {Way: api.Napot, Rights: 7, Addr: 0x7FFFFFFF},
		14: {Way: api.Napot, Rights: 7, Addr: 0xFFFFFFFF},
		15: {Way: api.Na4, Rights: 7, Addr: 0xFFFFFFFF},
		16: {Way: api.Tor, Rights: 7, Addr: 0x40000000},
		17: {Way: api.Off, Rights: 7, Addr: 0x40000000},
		18: {Way: api.Tor, Rights: 7, Addr: 0xFFFFFFFF},
		19: {Way: api.Napot, Rights: 7, Addr: 0xFFFFFFFE},
	}
	want := [][2]uint64{
		0:  {0, 0},
		1:  {0, 12},
		2:  {12, 12},
		3:  {12, 12},
		4:  {0, 0},
		5:  {20, 24},
		6:  {36, 40},
		7:  {36, 40},
		8:  {0x80001000, 0x80002000},
		9:  {0x800017FC, 0x80001800},
		10: {0, 8},
		11: {0, 16},
		12: {0, 0x100000000},
		13: {0, 0x400000000},
		14: {0, 0x800000000},
		15: {0x3FFFFFFFC, 0x400000000},
		16: {0x3FFFFFFFC, 0x3FFFFFFFC},
		17: {0, 0},
		18: {0x100000000, 0x3FFFFFFFC},
		19: {0x3FFFFFFF8, 0x400000000},
	}
	for i := range l {
		if start, end := pmp.Range(l, i); start != want[i][0] || end != want[i][1] {
			t.Errorf("entry %d: got %x, %x; want %x", i, start, end, want[i])
		}
		if start, end := slowRange(t, l, i); start != want[i][0] || end != want[i][1] {
			t.Errorf("entry %d: the model says %x, %x; want %x", i, start, end, want[i])
		}
	}
}

func TestRangeOfFirstTor(t *testing.T) {
	l := []api.Entry{{Way: api.Tor, Addr: 0xFFFFFFFF}}
	if start, end := pmp.Range(l, 0); start != 0 || end != 0x3FFFFFFFC {
		t.Errorf("got %x, %x", start, end)
	}
}

// A Tor entry begins at the Addr of the entry before it, whatever that one
// matches.
func TestRangeOfTorAfterEachWay(t *testing.T) {
	for way := range 4 {
		l := []api.Entry{{Way: way, Addr: 7}, {Way: api.Tor, Addr: 9}, {Way: way, Addr: 1}}
		if start, end := pmp.Range(l, 1); start != 28 || end != 36 {
			t.Errorf("after way %d: got %d, %d", way, start, end)
		}
	}
}

func TestRangeOfNoEntry(t *testing.T) {
	l := []api.Entry{{Way: api.Na4, Addr: 1}, {Way: api.Napot, Addr: 7}}
	for _, i := range []int{-1, -2, 2, 3, math.MinInt, math.MaxInt, 1 << 32} {
		if start, end := pmp.Range(l, i); start != 0 || end != 0 {
			t.Errorf("entry %d: got %x, %x", i, start, end)
		}
	}
	if start, end := pmp.Range(nil, 0); start != 0 || end != 0 {
		t.Errorf("without entries: got %x, %x", start, end)
	}
}

func TestRangeOfEveryNapotSize(t *testing.T) {
	size := uint64(8)
	for k := range 33 {
		addr := uint32(1)<<k - 1
		l := []api.Entry{{Way: api.Napot, Addr: addr}}
		if start, end := pmp.Range(l, 0); start != 0 || end != size {
			t.Errorf("%d one bits: got %x, %x", k, start, end)
		}
		if k < 31 {
			l[0].Addr = addr + 1<<(k+1)
			if start, end := pmp.Range(l, 0); start != size || end != 2*size {
				t.Errorf("the next one of %d one bits: got %x, %x", k, start, end)
			}
		}
		size *= 2
	}
}

func TestRandomRanges(t *testing.T) {
	r := rand.New(rand.NewSource(1))
	for range 20000 {
		l := randomEntries(r)
		for i := range l {
			start, end := pmp.Range(l, i)
			if first, last := slowRange(t, l, i); start != first || end != last {
				t.Fatalf("%+v, entry %d: got %x, %x; want %x, %x", l, i, start, end, first, last)
			}
		}
	}
}

func TestByte(t *testing.T) {
	for way, first := range []byte{0, 8, 16, 24} {
		for rights := range 8 {
			e := api.Entry{Way: way, Rights: rights, Addr: 0xFFFFFFFF}
			if got := pmp.Byte(e); got != first+byte(rights) {
				t.Errorf("%+v: got %x", e, got)
			}
		}
	}
}

// Only the lowest bits count.
func TestByteOfOtherIntegers(t *testing.T) {
	for _, k := range []struct {
		way, rights int
		want        byte
	}{
		{4, 8, 0},
		{7, 15, 31},
		{-1, -1, 31},
		{-4, -8, 0},
		{-2, 5, 21},
		{1, -7, 9},
		{math.MaxInt, 0, 24},
		{0, math.MaxInt, 7},
		{math.MinInt, math.MinInt, 0},
	} {
		if got := pmp.Byte(api.Entry{Way: k.way, Rights: k.rights}); got != k.want {
			t.Errorf("way %d, rights %d: got %x, want %x", k.way, k.rights, got, k.want)
		}
	}
}

func TestOf(t *testing.T) {
	for b := range 256 {
		for _, addr := range []uint32{0, 1, 0x200005FF, 0xFFFFFFFF} {
			want := api.Entry{Way: b / 8 % 4, Rights: b % 8, Addr: addr}
			got := pmp.Of(byte(b), addr)
			if got != want {
				t.Errorf("%x, %x: got %+v", b, addr, got)
			}
			if back := pmp.Byte(got); int(back) != b%32 {
				t.Errorf("%x: %+v has the byte %x", b, got, back)
			}
		}
	}
}

func TestOfByte(t *testing.T) {
	r := rand.New(rand.NewSource(2))
	for range 200 {
		for _, e := range randomEntries(r) {
			if got := pmp.Of(pmp.Byte(e), e.Addr); got != e {
				t.Fatalf("%+v: got %+v", e, got)
			}
		}
	}
}

func TestCallsLeaveTheirEntries(t *testing.T) {
	r := rand.New(rand.NewSource(3))
	for range 200 {
		l := randomEntries(r)
		// Unused capacity isn't to be written either.
		room := slices.Grow(slices.Clone(l), 4)
		whole := room[:len(l)+4]
		before := slices.Clone(whole)
		pmp.Range(room, len(l)-1)
		pmp.Check(room, 0, 4, api.Read)
		pmp.Runs(room)
		if !slices.Equal(whole, before) {
			t.Fatalf("%+v became %+v", before, whole)
		}
	}
}

// The behavior for other entries is not specified, but for that no call panics.
func TestOtherEntries(t *testing.T) {
	numbers := []int{-1, 0, 1, 3, 4, 7, 8, math.MinInt, math.MaxInt}
	for _, way := range numbers {
		for _, rights := range numbers {
			l := []api.Entry{{Way: way, Rights: rights, Addr: 3}, {Way: api.Tor, Rights: 1, Addr: 9}}
			pmp.Range(l, 0)
			pmp.Check(l, 12, 4, rights)
			pmp.Runs(l)
			pmp.Byte(l[0])
		}
	}
}
