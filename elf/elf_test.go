package elf_test

import (
	"bytes"
	stdelf "debug/elf"
	"math"
	"reflect"
	"testing"

	"portico/api"
	"portico/elf"
)

// knownFile is the file of someDraft, byte by byte.
var knownFile = []byte{
	0x7F, 'E', 'L', 'F', 1, 1, 1, 0, 0, 0, 0, 0, 0, 0, 0, 0,
	3, 0, 0xF3, 0, 1, 0, 0, 0, 0x04, 0x10, 0, 0, 52, 0, 0, 0,
	0, 0, 0, 0, 0, 0, 0, 0, 52, 0, 32, 0, 3, 0, 40, 0, 0, 0, 0, 0,
	1, 0, 0, 0, 148, 0, 0, 0, 0x00, 0x10, 0, 0, 0x00, 0x10, 0, 0,
	16, 0, 0, 0, 32, 0, 0, 0, 5, 0, 0, 0, 4, 0, 0, 0,
	2, 0, 0, 0, 180, 0, 0, 0, 0x10, 0x20, 0, 0, 0x10, 0x20, 0, 0,
	8, 0, 0, 0, 8, 0, 0, 0, 4, 0, 0, 0, 4, 0, 0, 0,
	1, 0, 0, 0, 164, 0, 0, 0, 0x00, 0x20, 0, 0, 0x00, 0x20, 0, 0,
	24, 0, 0, 0, 24, 0, 0, 0, 6, 0, 0, 0, 4, 0, 0, 0,
	1, 4, 7, 10, 13, 16, 19, 22, 25, 28, 31, 34, 37, 40, 43, 46,
	49, 52, 55, 58, 61, 64, 67, 70, 73, 76, 79, 82, 85, 88, 91, 94, 97, 100, 103, 106, 109, 112, 115, 118,
}

// knownHeads are the program headers of knownFile.
func knownHeads() []elf.Header {
	return []elf.Header{
		{Kind: 1, At: 148, Addr: 0x1000, File: 16, Mem: 32, Rights: api.Read + api.Exec},
		{Kind: 2, At: 180, Addr: 0x2010, File: 8, Mem: 8, Rights: api.Read},
		{Kind: 1, At: 164, Addr: 0x2000, File: 24, Mem: 24, Rights: api.Read + api.Write},
	}
}

// expectHeads checks what Heads says of f; Segments' error isn't asked.
func expectHeads(t *testing.T, ok bool, f []byte, what string) {
	t.Helper()
	want := readSlowly(f)
	if (want.headsErr == api.OK) != ok {
		t.Errorf("%s: the slow reading's error is %d", what, want.headsErr)
	}
	entry, heads, e := elf.Heads(f)
	if e != want.headsErr || entry != want.entry || len(heads) != len(want.heads) || len(heads) > 0 && !reflect.DeepEqual(heads, want.heads) {
		t.Errorf("%s: got %X, %+v, %d; want %+v; file %X", what, entry, heads, e, want, f)
	}
}

func TestConstants(t *testing.T) {
	if elf.Load != 1 || elf.Dynamic != 2 {
		t.Error(elf.Load, elf.Dynamic)
	}
	if elf.Ident != "\x7fELF\x01\x01\x01\x00\x00\x00\x00\x00\x00\x00\x00\x00" || len(elf.Ident) != 16 {
		t.Errorf("%X", elf.Ident)
	}
}

func TestKnownHeads(t *testing.T) {
	if got := someDraft().bytes(); !bytes.Equal(got, knownFile) {
		t.Errorf("the draft is written as %X", got)
	}
	entry, heads, e := elf.Heads(knownFile)
	if entry != 0x1004 || e != api.OK || !reflect.DeepEqual(heads, knownHeads()) {
		t.Errorf("got %X, %+v, %d", entry, heads, e)
	}
	expect(t, api.OK, knownFile, "the known file")
}

// Heads tells the headers of a file that can't be loaded.
func TestHeadsOfUnloadable(t *testing.T) {
	f := draft{entry: 3, heads: []head{
		{elf.Dynamic, 0, 1, 2, 3, 4, 7, 8}, {elf.Load, 212, math.MaxUint32, 5, 0, math.MaxUint32, 0, 7},
		{elf.Load, 1, 2, 3, 4, 5, 6, 7}, {elf.Dynamic, 211, 0, 0, 1, 1, 1, 1}, {elf.Load, 0, 0, 0, 212, 212, 3, 0},
	}}.bytes()
	entry, heads, e := elf.Heads(f)
	want := []elf.Header{
		{Kind: 2, At: 0, Addr: 1, File: 3, Mem: 4, Rights: 7}, {Kind: 1, At: 212, Addr: math.MaxUint32, Mem: math.MaxUint32},
		{Kind: 1, At: 1, Addr: 2, File: 4, Mem: 5, Rights: 3}, {Kind: 2, At: 211, File: 1, Mem: 1, Rights: 4}, {Kind: 1, File: 212, Mem: 212, Rights: 6},
	}
	if entry != 3 || e != api.OK || !reflect.DeepEqual(heads, want) {
		t.Errorf("got %X, %+v, %d", entry, heads, e)
	}
	expect(t, api.ErrLoad, f, "a file that can't be loaded")
}

// The last contents end where the file does, so no part of it is complete.
func TestIncomplete(t *testing.T) {
	for _, f := range [][]byte{knownFile, only().bytes()} {
		expect(t, api.OK, f, "a complete file")
		for n := range f {
			expect(t, api.ErrElf, f[:n], "incomplete")
		}
	}
	expect(t, api.ErrElf, nil, "nil")
	expect(t, api.ErrElf, []byte(elf.Ident), "the first 16 bytes")
	expect(t, api.ErrElf, make([]byte, 200), "zeros")
	expect(t, api.ErrElf, bytes.Repeat([]byte{0xFF}, 200), "ones")
	expect(t, api.OK, append(bytes.Clone(knownFile), make([]byte, 100)...), "bytes behind the contents")
}

// A program header may lie in the file header, which must still be there whole,
// even though its last six bytes are arbitrary.
func TestHeaderInFileHeader(t *testing.T) {
	plain := patched(only().bytes()[:headsAt], lastAt, 0, 0, 0, 0, 0, 0)
	for _, x := range []struct {
		table, entry uint32
		head         elf.Header
		want         api.Errno
	}{
		{6, 0x30000, elf.Header{Kind: elf.Load, Addr: 0x30000, Mem: 0x60003}, api.ErrLoad},
		{6, 0x40000, elf.Header{Kind: elf.Load, Addr: 0x30000, Mem: 0x60004}, api.ErrLoad},
		{20, 20, elf.Header{Kind: elf.Load, At: 20, Addr: 20, Mem: 0x200034, Rights: api.Exec}, api.OK},
		{20, 52, elf.Header{Kind: elf.Load, At: 52, Addr: 20, Mem: 0x200034, Rights: api.Exec}, api.OK},
		{20, 56, elf.Header{}, api.ErrElf},
		{0, 20, elf.Header{}, api.ErrElf}, {21, 20, elf.Header{}, api.ErrElf}, {51, 20, elf.Header{}, api.ErrElf},
	} {
		f := patched(patched(plain, tableAt, little32(x.table)...), entryAt, little32(x.entry)...)
		_, heads, e := elf.Heads(f)
		if x.head != (elf.Header{}) && (e != api.OK || len(heads) != 1 || heads[0] != x.head) {
			t.Errorf("table %d: got %+v, %d, want %+v", x.table, heads, e, x.head)
		}
		expect(t, x.want, f, "a program header in the file header")
		for n := range f {
			expect(t, api.ErrElf, f[:n], "an incomplete file header")
		}
	}
}

// Each value of each byte.
func TestChangedBytes(t *testing.T) {
	for _, original := range [][]byte{knownFile, only().bytes(), draft{heads: []head{load(2, 0, 4, 5), load(2, 4, 4, 6)}, contents: make([]byte, 4)}.bytes()} {
		for i := range original {
			for x := range 256 {
				f := patched(original, i, byte(x))
				if got, want := read(f), readSlowly(f); !reflect.DeepEqual(got, want) {
					t.Fatalf("byte %d is %d:\ngot  %+v\nwant %+v", i, x, got, want)
				}
			}
		}
	}
}

func TestFileHeader(t *testing.T) {
	for i := range 16 {
		for _, x := range []byte{0, 1, 2, 0x80, 0xFF, 'E', 'e'} {
			if x != knownFile[i] {
				expect(t, api.ErrElf, patched(knownFile, i, x), "another byte among the first 16")
			}
		}
	}
	for place, right := range map[int]int{typeAt: 3, machineAt: 243, sizeAt: 52, headSizeAt: 32} {
		for _, x := range []int{0, 1, 2, right - 1, right + 1, right + 256, right << 8, right + 32768, 65535} {
			expect(t, api.ErrElf, patched(knownFile, place, little16(x)...), "another integer of 2 bytes")
		}
	}
	for place, right := range map[int]uint32{versionAt: 1, flagsAt: 0} {
		for _, x := range []uint32{2, 4, right + 1, right + 256, right + 1<<16, right + 1<<24, right + 1<<31, math.MaxUint32} {
			expect(t, api.ErrElf, patched(knownFile, place, little32(x)...), "another integer of 4 bytes")
		}
	}
	expect(t, api.ErrElf, patched(knownFile, versionAt, 0), "version 0")
	expect(t, api.ErrElf, append([]byte{0}, knownFile...), "a byte before the file header")
}

// What the chapter calls arbitrary changes nothing.
func TestArbitrary(t *testing.T) {
	want := read(knownFile)
	for _, x := range []byte{0, 1, 0x7F, 0x80, 0xFF} {
		f := bytes.Clone(knownFile)
		places := []int{anythingAt, anythingAt + 1, anythingAt + 2, anythingAt + 3}
		for i := range 6 {
			places = append(places, lastAt+i)
		}
		for i := range 12 {
			places = append(places, headsAt+32*(i/4)+4*anything+i%4, headsAt+32*(i/4)+4*align+i%4)
		}
		for _, i := range places {
			f[i] = x
		}
		if got := read(f); !reflect.DeepEqual(got, want) {
			t.Errorf("%d in its place: got %+v, want %+v", x, got, want)
		}
	}
}

func TestEntryOfHeads(t *testing.T) {
	for _, entry := range []uint32{0, 1, 0xFF, 0x04030201, 1 << 31, math.MaxUint32} {
		got, _, e := elf.Heads(someDraft().withEntry(entry).bytes())
		if got != entry || e != api.OK {
			t.Errorf("got %X, %d, want %X", got, e, entry)
		}
	}
}

func TestNumberOfHeaders(t *testing.T) {
	for n := range 300 {
		var d draft
		for range n {
			d.heads = append(d.heads, load(0, 0, 0, 5))
		}
		expectHeads(t, n >= 1 && n <= 5, d.bytes(), "the number of program headers")
	}
	f := append(bytes.Clone(knownFile), make([]byte, 70000*32)...)
	for _, n := range []int{0, 6, 255, 256, 257, 258, 0x300, 0x301, 0x8003, 65535} {
		expect(t, api.ErrElf, patched(f, countAt, little16(n)...), "another number of program headers")
	}
	expectHeads(t, true, patched(f, countAt, 2), "less headers than there are")
	expectHeads(t, false, patched(f, countAt, 4), "headers of contents")
}

// The program headers may be anywhere in the file, but wholly.
func TestPlaceOfHeaders(t *testing.T) {
	d := someDraft()
	f := d.bytes()
	table := f[52:148]
	end := uint32(len(f))
	for _, n := range []uint32{0, 1, 2, 3, 4, 31, 32, 33, 1000} {
		g := append(append(bytes.Clone(f), make([]byte, n)...), table...)
		clear(g[52:148])
		expect(t, api.OK, patched(g, tableAt, little32(end+n)...), "headers at the end")
		expect(t, api.ErrElf, patched(g, tableAt, little32(end+n)...)[:len(g)-1], "headers at the end, a byte less")
		for _, other := range []uint32{end + n - 1, end + n + 1, end + n + 32} {
			expect(t, api.ErrElf, patched(g, tableAt, little32(other)...), "headers elsewhere")
		}
	}
	for _, at := range []uint32{0, 48, 51, 53, end - 96, end - 95, end - 32, end, end + 1, 1 << 31, 1<<31 + 52, math.MaxUint32 - 95, math.MaxUint32 - 31, math.MaxUint32} {
		expect(t, api.ErrElf, patched(f, tableAt, little32(at)...), "no headers there")
	}
}

// One header may begin in the arbitrary bytes of the file header.
func TestHeadersOverFileHeader(t *testing.T) {
	b := only().bytes()
	f := append(bytes.Clone(b[:48]), b[52:]...)
	f = patched(f, tableAt, 48)
	expect(t, api.OK, patched(f, 48+4, 80), "a header from byte 48 on")
	expect(t, api.ErrElf, f, "the same with the contents 4 bytes behind the end")
}

func TestKinds(t *testing.T) {
	for i := range 3 {
		for _, x := range []uint32{0, 3, 4, 6, 7, 0x101, 0x102, 1<<16 + 1, 1<<31 + 1, 1<<31 + 2, math.MaxUint32 - 1, math.MaxUint32} {
			expect(t, api.ErrElf, someDraft().with(i, kind, x).bytes(), "another kind")
		}
		expectHeads(t, true, someDraft().with(i, kind, elf.Load).bytes(), "Load")
		expectHeads(t, true, someDraft().with(i, kind, elf.Dynamic).bytes(), "Dynamic")
	}
}

func TestFlags(t *testing.T) {
	for i := range 3 {
		for x, want := range []int{0, api.Exec, api.Write, api.Write + api.Exec, api.Read, api.Read + api.Exec, api.Read + api.Write, api.Read + api.Write + api.Exec} {
			_, heads, e := elf.Heads(someDraft().with(i, flags, uint32(x)).bytes())
			if e != api.OK || heads[i].Rights != want {
				t.Errorf("flags %d: got %+v, %d, want rights %d", x, heads, e, want)
			}
		}
		for _, x := range []uint32{8, 9, 12, 13, 15, 16, 0x104, 1<<16 + 5, 1<<31 + 5, 1 << 31, math.MaxUint32} {
			expect(t, api.ErrElf, someDraft().with(i, flags, x).bytes(), "flags greater than 7")
		}
	}
}

func TestPlaceOfContents(t *testing.T) {
	end := uint32(len(knownFile))
	for i := range 3 {
		for _, x := range []struct {
			at, file uint32
			ok       bool
		}{
			{0, end, true}, {0, end - 1, true}, {0, end + 1, false}, {1, end - 1, true}, {1, end, false},
			{end - 1, 1, true}, {end - 1, 2, false}, {end - 1, 0, true}, {end, 0, true}, {end, 1, false}, {end + 1, 0, false}, {end + 1, 1, false},
			{0, 0, true}, {52, 0, true}, {1 << 31, 0, false}, {1 << 31, 1 << 31, false}, {0, 1 << 31, false}, {0, math.MaxUint32, false},
			{math.MaxUint32, 0, false}, {math.MaxUint32, 1, false}, {math.MaxUint32, 2, false}, {math.MaxUint32 - 7, 8, false}, {8, math.MaxUint32 - 7, false},
			{end, math.MaxUint32 - end, false}, {end, math.MaxUint32 - end + 1, false}, {100, math.MaxUint32 - 98, false}, {math.MaxUint32, math.MaxUint32, false},
		} {
			d := someDraft().with(i, at, x.at).with(i, file, x.file).with(i, mem, math.MaxUint32)
			expectHeads(t, x.ok, d.bytes(), "the place of contents")
		}
	}
}

func TestMoreInFile(t *testing.T) {
	for i := range 3 {
		for _, n := range []uint32{0, 1, 2, 8, 40} {
			d := someDraft().with(i, at, 148).with(i, file, n)
			expectHeads(t, true, d.with(i, mem, n).bytes(), "as many in the file as in memory")
			expectHeads(t, true, d.with(i, mem, n+1).bytes(), "one more in memory")
			expectHeads(t, true, d.with(i, mem, 1<<31+n).bytes(), "many more in memory")
			for m := range n {
				expectHeads(t, false, d.with(i, mem, m).bytes(), "more in the file")
			}
		}
	}
}

// The last of five headers is looked at as the first is.
func TestEachHeader(t *testing.T) {
	var d draft
	for range 5 {
		d.heads = append(d.heads, load(5, 0, 4, 5))
	}
	d.contents = make([]byte, 4)
	expectHeads(t, true, d.bytes(), "five headers")
	for i := range 5 {
		expectHeads(t, false, d.with(i, kind, 6).bytes(), "another kind")
		expectHeads(t, false, d.with(i, flags, 8).bytes(), "flags")
		expectHeads(t, false, d.with(i, at, contentsAt(5)+1).bytes(), "contents")
		expectHeads(t, false, d.with(i, mem, 3).bytes(), "more in the file")
	}
}

// Bytes behind the file's length aren't part of it, even if the slice has them.
func TestCapacity(t *testing.T) {
	f := append(bytes.Clone(knownFile), 1, 2, 3)
	for n := range knownFile {
		expect(t, api.ErrElf, f[:n], "incomplete, with more behind it")
	}
	expectHeads(t, false, patched(f, headsAt+4*file, 41)[:len(knownFile)], "contents behind the end")
}

// Go's own reader of such files finds the same headers.
func TestAgainstStandardLibrary(t *testing.T) {
	five := draft{entry: 0x10000}
	for i := range 5 {
		five.heads = append(five.heads, load(5, uint32(0x10000*i), uint32(8*i), []uint32{4, 5, 6, 1, 2}[i]))
	}
	five.heads[3][kind] = elf.Dynamic
	five.contents = make([]byte, 32)
	for _, d := range []draft{someDraft(), only(), five} {
		f := d.bytes()
		std, err := stdelf.NewFile(bytes.NewReader(f))
		if err != nil {
			t.Fatal(err)
		}
		entry, heads, e := elf.Heads(f)
		if e != api.OK || uint64(entry) != std.Entry || len(heads) != len(std.Progs) {
			t.Fatalf("got %X, %+v, %d, want %+v", entry, heads, e, std)
		}
		for i, h := range heads {
			p := std.Progs[i].ProgHeader
			rights := []stdelf.ProgFlag{stdelf.PF_R, stdelf.PF_W, stdelf.PF_X}
			for bit, flag := range rights {
				if (h.Rights>>bit&1 != 0) != (p.Flags&flag != 0) {
					t.Errorf("header %d: rights %d, flags %v", i, h.Rights, p.Flags)
				}
			}
			got := []uint64{uint64(h.Kind), uint64(h.At), uint64(h.Addr), uint64(h.File), uint64(h.Mem)}
			if want := []uint64{uint64(p.Type), p.Off, p.Vaddr, p.Filesz, p.Memsz}; !reflect.DeepEqual(got, want) {
				t.Errorf("header %d: got %d, want %d", i, got, want)
			}
		}
	}
}
