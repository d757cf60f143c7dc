package elf_test

import (
	"bytes"
	"math"
	"math/rand"
	"reflect"
	"testing"

	"portico/api"
	"portico/elf"
)

// twoLoads returns a draft of code at 0x1000 and data at 0x2000, eight bytes each
// and sixteen in memory.
func twoLoads() draft {
	code, data := load(2, 0x1000, 8, 5), load(2, 0x2000, 8, 6)
	code[mem], data[mem] = 16, 16
	return draft{entry: 0x1000, heads: []head{code, data}, contents: []byte{1, 2, 3, 4, 5, 6, 7, 8}}
}

// dynamicHead returns a Dynamic header without contents.
func dynamicHead() head {
	return head{kind: elf.Dynamic, flags: 4}
}

// of returns a draft with these headers; their contents are the file header.
func of(entry uint32, heads ...head) draft {
	d := draft{entry: entry}
	for _, h := range heads {
		h[at] = 0
		d.heads = append(d.heads, h)
	}
	return d
}

// empty returns a Load header without contents.
func empty(address, size, permissions uint32) head {
	return head{kind: elf.Load, addr: address, mem: size, flags: permissions}
}

func okIf(ok bool) api.Errno {
	if ok {
		return api.OK
	}
	return api.ErrLoad
}

func TestKnownSegments(t *testing.T) {
	entry, segments, dynamic, e := elf.Segments(knownFile)
	want := []api.Segment{
		{Addr: 0x1000, Bytes: knownFile[148:164], Size: 32, Rights: api.Read + api.Exec},
		{Addr: 0x2000, Bytes: knownFile[164:188], Size: 24, Rights: api.Read + api.Write},
	}
	if entry != 0x1004 || e != api.OK || !reflect.DeepEqual(segments, want) || !reflect.DeepEqual(dynamic, knownHeads()[1:2]) {
		t.Errorf("got %X, %+v, %+v, %d", entry, segments, dynamic, e)
	}
}

// The chapter's example.
func TestOneSegment(t *testing.T) {
	entry, segments, dynamic, e := elf.Segments(only().bytes())
	want := []api.Segment{{Bytes: []byte{0x13, 0, 0, 0}, Size: 4, Rights: api.Read + api.Exec}}
	if entry != 0 || e != api.OK || !reflect.DeepEqual(segments, want) || len(dynamic) != 0 {
		t.Errorf("got %X, %+v, %+v, %d", entry, segments, dynamic, e)
	}
}

// Beside ErrLoad and ErrElf there is nothing else.
func TestNothingBesideErrors(t *testing.T) {
	for _, f := range [][]byte{nil, knownFile[:187], someDraft().withEntry(2).bytes(), someDraft().with(1, kind, elf.Load).bytes()} {
		entry, segments, dynamic, e := elf.Segments(f)
		if e == api.OK || entry != 0 || len(segments) != 0 || len(dynamic) != 0 {
			t.Errorf("got %X, %+v, %+v, %d", entry, segments, dynamic, e)
		}
	}
}

func TestHeadsErrorFirst(t *testing.T) {
	for i, bad := range map[int]uint32{kind: 3, flags: 8, at: 1000, file: 1000} {
		d := twoLoads().with(1, i, bad)
		expect(t, api.ErrElf, d.bytes(), "Heads' error")
		expect(t, api.ErrElf, d.withEntry(1).bytes(), "and a bad entry")
		expect(t, api.ErrElf, d.with(0, addr, 2).bytes(), "and a bad address")
		expect(t, api.ErrElf, d.with(0, mem, 0).with(0, file, 0).bytes(), "and a bad size")
		expect(t, api.ErrElf, d.with(0, flags, 7).bytes(), "and bad rights")
		expect(t, api.ErrElf, d.with(0, kind, elf.Dynamic).bytes(), "and no code")
	}
}

func TestAddress(t *testing.T) {
	for _, x := range []uint32{0x1FFF, 0x1FFE, 0x1FFD, 0x2001, 0x2002, 0x2003, 0x7FFFFFFF, 0x80000002} {
		expect(t, api.ErrLoad, twoLoads().with(1, addr, x).bytes(), "an address that isn't a multiple of 4")
	}
	for _, x := range []uint32{0x1010, 0x1014, 0x1FFC, 0x2004, 0x7FFFFFFC, 0x80000000, 0xFFFFFFEC} {
		expect(t, api.OK, twoLoads().with(1, addr, x).bytes(), "another address")
	}
	for _, x := range []uint32{1, 2, 3, 0xFFD, 0xFFE, 0xFFF} {
		expect(t, api.ErrLoad, twoLoads().with(0, addr, x).bytes(), "an address of code that isn't a multiple of 4")
	}
}

func TestSize(t *testing.T) {
	for n := range uint32(40) {
		for i := range 2 {
			good := n%4 == 0 && n != 0
			d := twoLoads().with(i, file, 0).with(i, mem, n)
			expect(t, okIf(good), d.bytes(), "the number of bytes in memory")
			if n >= 3 {
				expect(t, okIf(good), d.with(i, file, 3).bytes(), "with three bytes in the file")
			}
		}
	}
	for _, n := range []uint32{0x7FFFFFFF, 1<<31 + 1, 1<<31 + 2, 0xFFFFDFFB} {
		expect(t, api.ErrLoad, twoLoads().with(1, mem, n).bytes(), "a great number that isn't a multiple of 4")
	}
	for _, n := range []uint32{0x7FFFFFFC, 1 << 31, 0xFFFFDFFC} {
		expect(t, api.OK, twoLoads().with(1, mem, n).bytes(), "a great number")
	}
}

// Bytes holds what is in the file, Size tells what is in memory.
func TestContents(t *testing.T) {
	for first := range 9 {
		for last := first; last < 9; last++ {
			d := twoLoads()
			d = d.with(1, at, contentsAt(2)+uint32(first)).with(1, file, uint32(last-first))
			f := d.bytes()
			expect(t, api.OK, f, "contents")
			_, segments, _, e := elf.Segments(f)
			if e != api.OK || !bytes.Equal(segments[1].Bytes, d.contents[first:last]) || segments[1].Size != 16 {
				t.Errorf("contents %d to %d: got %+v, %d", first, last, segments, e)
			}
		}
	}
}

func TestEndOfAddresses(t *testing.T) {
	for _, x := range []struct {
		address, size uint32
		ok            bool
	}{
		{0xFFFFFFF8, 4, true}, {0xFFFFFFF8, 8, false}, {0xFFFFFFF8, 12, false}, {0xFFFFFFFC, 4, false}, {0xFFFFFFFC, 8, false},
		{0xFFFFFFF0, 12, true}, {0xFFFFFFF0, 16, false}, {0x80000000, 0x7FFFFFFC, true}, {0x80000000, 0x80000000, false}, {0x80000004, 0x7FFFFFFC, false},
		{0, 0xFFFFFFFC, true}, {4, 0xFFFFFFF8, true}, {4, 0xFFFFFFFC, false}, {0xFFFFFFFC, 0xFFFFFFFC, false}, {0x80000004, 0x80000000, false},
	} {
		alone := of(x.address, empty(x.address, x.size, 1))
		expect(t, okIf(x.ok), alone.bytes(), "the end of the only segment")
		if x.address >= 4 {
			behind := of(0, empty(0, 4, 5), empty(x.address, x.size, 2))
			expect(t, okIf(x.ok), behind.bytes(), "the end of the second segment")
		}
	}
}

func TestRights(t *testing.T) {
	for x := range uint32(8) {
		good := x != 0 && x&3 != 3
		expect(t, okIf(good), twoLoads().with(1, flags, x).bytes(), "rights of the second segment")
		expect(t, okIf(good && x&1 != 0), twoLoads().with(0, flags, x).bytes(), "rights of the first segment")
		expect(t, okIf(good), twoLoads().with(0, flags, x).with(1, flags, 1).withEntry(0x2000).bytes(), "with code in the second")
	}
}

func TestNumberOfLoads(t *testing.T) {
	for n := range 6 {
		var d draft
		for i := range n {
			d.heads = append(d.heads, empty(uint32(4*i), 4, 5))
		}
		if n > 0 {
			expect(t, okIf(n <= 4), d.bytes(), "a number of Load headers")
		}
		for place := range n + 1 {
			heads := append([]head(nil), d.heads[:place]...)
			heads = append(append(heads, dynamicHead()), d.heads[place:]...)
			want := okIf(n >= 1 && n <= 4)
			if n == 5 {
				want = api.ErrElf
			}
			expect(t, want, draft{heads: heads}.bytes(), "with a Dynamic header among them")
		}
	}
}

func TestOrder(t *testing.T) {
	for _, x := range []struct {
		first, second uint32
		ok            bool
	}{
		{0x1000, 0x1010, true}, {0x1000, 0x1014, true}, {0x1000, 0x100C, false}, {0x1000, 0x1008, false}, {0x1000, 0x1004, false},
		{0x1000, 0x1000, false}, {0x1000, 0xFFC, false}, {0x1000, 0xFF0, false}, {0x1000, 0, false}, {0x80000000, 0, false},
		{0x7FFFFFF0, 0x80000000, true}, {0x7FFFFFF4, 0x80000000, false}, {0, 0x80000000, true}, {0x80000000, 0x80000010, true}, {0x80000000, 0x7FFFFFF0, false},
	} {
		d := twoLoads().with(0, addr, x.first).with(1, addr, x.second).withEntry(x.first)
		expect(t, okIf(x.ok), d.bytes(), "two segments")
		between := head{kind: elf.Dynamic, addr: 0x90000000, mem: 0x1000}
		d = of(x.first, d.heads[0], between, d.heads[1])
		expect(t, okIf(x.ok), d.bytes(), "with a Dynamic header between them")
	}
	for _, x := range []struct {
		third uint32
		ok    bool
	}{{0x2010, true}, {0x200C, false}, {0x2000, false}, {0x1010, false}, {0x1000, false}, {0, false}} {
		d := of(0x1000, append(twoLoads().heads, empty(x.third, 4, 4))...)
		expect(t, okIf(x.ok), d.bytes(), "a third segment")
	}
}

func TestNumberOfDynamics(t *testing.T) {
	for n := range 5 {
		for place := range n + 1 {
			var heads []head
			for range n {
				heads = append(heads, dynamicHead())
			}
			if n > 0 {
				expect(t, api.ErrLoad, of(0, heads...).bytes(), "Dynamic headers alone")
			}
			heads = append(append(append([]head(nil), heads[:place]...), empty(0, 4, 5)), heads[place:]...)
			expect(t, okIf(n <= 1), of(0, heads...).bytes(), "a number of Dynamic headers")
		}
	}
}

// What must hold of a Load header needn't hold of a Dynamic one.
func TestAnyDynamic(t *testing.T) {
	for _, x := range []uint32{0, 1, 2, 3, 0x1000, 0x1004, 0xFFFFFFFC, math.MaxUint32} {
		for permissions := range uint32(8) {
			for i := range 3 {
				h := head{kind: elf.Dynamic, addr: x, mem: x, flags: permissions}
				heads := append(append(append([]head(nil), twoLoads().heads[:i]...), h), twoLoads().heads[i:]...)
				f := of(0x1000, heads...).bytes()
				expect(t, api.OK, f, "a Dynamic header")
				_, segments, dynamic, _ := elf.Segments(f)
				_, all, _ := elf.Heads(f)
				if len(segments) != 2 || len(dynamic) != 1 || dynamic[0] != all[i] {
					t.Errorf("got %+v, %+v, want %+v", segments, dynamic, all[i])
				}
			}
		}
	}
}

func TestEntry(t *testing.T) {
	// Code, data, code.
	d := of(0, empty(0x1000, 16, 1), empty(0x1010, 16, 6), empty(0x1020, 8, 5))
	for entry := uint32(0xFF0); entry < 0x1040; entry++ {
		good := entry%4 == 0 && (entry >= 0x1000 && entry < 0x1010 || entry >= 0x1020 && entry < 0x1028)
		expect(t, okIf(good), d.withEntry(entry).bytes(), "an entry")
	}
	for _, entry := range []uint32{0, 4, 0x80001000, 0xFFFFFFFC, math.MaxUint32} {
		expect(t, api.ErrLoad, d.withEntry(entry).bytes(), "an entry elsewhere")
	}
	expect(t, api.ErrLoad, of(0x1000, dynamicHead()).bytes(), "no segment")
	expect(t, api.ErrLoad, of(0x1000, head{kind: elf.Dynamic, addr: 0x1000, mem: 16, flags: 5}, empty(0x2000, 4, 5)).bytes(), "an entry in a Dynamic header's range")
}

// An entry may be at any word in memory, even where the file has no contents.
func TestEntryWithoutContents(t *testing.T) {
	for entry := uint32(0x1000); entry < 0x1014; entry++ {
		expect(t, okIf(entry%4 == 0 && entry < 0x1010), twoLoads().withEntry(entry).bytes(), "an entry")
	}
}

func TestEntryAtEndOfAddresses(t *testing.T) {
	d := of(0, empty(0, 0xFFFFFFFC, 5))
	for _, entry := range []uint32{0, 4, 0x7FFFFFFC, 0x80000000, 0xFFFFFFF4, 0xFFFFFFF8} {
		expect(t, api.OK, d.withEntry(entry).bytes(), "an entry in all the memory")
	}
	for _, entry := range []uint32{1, 2, 3, 0x80000001, 0xFFFFFFF6, 0xFFFFFFF9, 0xFFFFFFFA, 0xFFFFFFFB, 0xFFFFFFFC, 0xFFFFFFFD, 0xFFFFFFFE, math.MaxUint32} {
		expect(t, api.ErrLoad, d.withEntry(entry).bytes(), "an entry not in all the memory")
	}
}

// The file isn't changed, and changes of it, or of an answer, are seen nowhere else.
func TestOwnMemory(t *testing.T) {
	// Both segments have the same contents.
	f := append(twoLoads().bytes(), 9, 9)
	f = f[:len(f)-2]
	before, want := bytes.Clone(f[:len(f)+2]), readSlowly(f)
	got := read(f)
	if !bytes.Equal(f[:len(f)+2], before) {
		t.Error("the file is changed")
	}
	clear(f)
	if !reflect.DeepEqual(got, want) {
		t.Errorf("with the file cleared: got %+v, want %+v", got, want)
	}
	copy(f, before)
	got.segments[0].Bytes = append(got.segments[0].Bytes, 7)
	clear(got.segments[0].Bytes)
	clear(got.heads)
	got.segments[0] = want.segments[0]
	got.heads = want.heads
	if !reflect.DeepEqual(got, want) {
		t.Errorf("with a segment cleared: got %+v, want %+v", got, want)
	}
	if !bytes.Equal(f[:len(f)+2], before) {
		t.Error("the file shares memory with an answer")
	}
	if again := read(f); !reflect.DeepEqual(again, want) {
		t.Errorf("again: got %+v, want %+v", again, want)
	}
}

// Three headers of a small memory, in every arrangement of a choice.
func TestSmallModel(t *testing.T) {
	var choice []head
	for _, address := range []uint32{0, 4, 8} {
		for _, size := range []uint32{0, 4, 8} {
			for _, permissions := range []uint32{1, 4} {
				choice = append(choice, empty(address, size, permissions))
			}
		}
	}
	choice = append(choice, dynamicHead(), empty(2, 4, 1), empty(4, 6, 1), empty(4, 4, 3), empty(4, 4, 0))
	good := 0
	for _, first := range choice {
		for _, second := range choice {
			for _, third := range choice {
				for entry := range uint32(5) {
					f := of(4*entry, first, second, third).bytes()
					got, want := read(f), readSlowly(f)
					if !reflect.DeepEqual(got, want) {
						t.Fatalf("got %+v\nwant %+v\nfile %X", got, want, f)
					}
					if got.segsError == api.OK {
						good++
					}
				}
			}
		}
	}
	if good < 50 {
		t.Errorf("only %d good files", good)
	}
}

// Files with some integers of a good one replaced by others.
func TestRandomFields(t *testing.T) {
	random := rand.New(rand.NewSource(8))
	some := []uint32{0, 1, 2, 3, 4, 5, 6, 7, 8, 16, 32, 52, 0x1000, 0x1004, 0x1010, 0x1020, 0x2000, 0x2010, 1 << 31, 0xFFFFFFF8, 0xFFFFFFFC, math.MaxUint32}
	met := map[api.Errno]int{}
	for range 30000 {
		d := someDraft()
		if random.Intn(3) == 0 {
			d.entry = some[random.Intn(len(some))]
		}
		for range random.Intn(4) {
			i, field := random.Intn(3), random.Intn(8)
			d = d.with(i, field, some[random.Intn(len(some))])
		}
		random.Shuffle(random.Intn(2)*len(d.heads), func(i, j int) { d.heads[i], d.heads[j] = d.heads[j], d.heads[i] })
		f := d.bytes()
		got, want := read(f), readSlowly(f)
		if !reflect.DeepEqual(got, want) {
			t.Fatalf("got %+v\nwant %+v\nfile %X", got, want, f)
		}
		met[got.segsError]++
	}
	for _, e := range []api.Errno{api.OK, api.ErrElf, api.ErrLoad} {
		if met[e] < 100 {
			t.Errorf("error %d met only %d times", e, met[e])
		}
	}
}

func FuzzSegments(f *testing.F) {
	f.Add(knownFile)
	f.Add(only().bytes())
	f.Add(twoLoads().bytes())
	f.Fuzz(func(t *testing.T, b []byte) {
		if got, want := read(b), readSlowly(b); !reflect.DeepEqual(got, want) {
			t.Fatalf("got %+v\nwant %+v", got, want)
		}
	})
}
