package dyn_test

import (
	"bytes"
	"encoding/binary"
	"reflect"
	"slices"
	"testing"

	"portico/api"
	"portico/dyn"
	"portico/elf"
)

// A pair of the dynamic section: a tag and its value.
type pair [2]uint32

// A segment as it is written.
type segment struct {
	addr  uint32
	bytes []byte
	mem   uint32
	flags uint32
}

// A draft is what a file is written from. Its entry is the first segment's address.
type draft struct {
	segments []segment
	dynamic  []uint32 // the address, and the numbers of bytes in the file and in memory; or nothing
}

// code returns a segment of one instruction, at address 0.
func code() segment {
	return segment{0, words(0x13), 4, 5}
}

func words(l ...uint32) []byte {
	var b []byte
	for _, x := range l {
		b = binary.LittleEndian.AppendUint32(b, x)
	}
	return b
}

func (d draft) bytes() []byte {
	count := uint32(len(d.segments) + len(d.dynamic)/3)
	b := []byte(elf.Ident + "\x03\x00\xf3\x00")
	b = append(b, words(1, d.segments[0].addr, 52, 0, 0, 32<<16+52, count, 0)...)
	var contents []byte
	for _, s := range d.segments {
		at := 52 + 32*count + uint32(len(contents))
		b = append(b, words(elf.Load, at, s.addr, 0, uint32(len(s.bytes)), s.mem, s.flags, 4)...)
		contents = append(contents, s.bytes...)
	}
	if len(d.dynamic) == 3 {
		// The contents that the header itself tells are not where the section is read.
		b = append(b, words(elf.Dynamic, 0, d.dynamic[0], 0, d.dynamic[1], d.dynamic[2], 4, 4)...)
	}
	return append(b, contents...)
}

// Where the segment of the tables starts.
const base = 0x2000

// The tables are what one segment holds: the dynamic section, the hash table, the
// symbols and the relocations, one after the other.
type tables struct {
	pairs   []pair
	hash    []uint32
	symbols []uint32 // four integers each
	relas   []uint32 // three integers each
}

// someTables returns good tables of so many symbols and relocations.
func someTables(symbols, relas int) tables {
	t := tables{hash: []uint32{99, uint32(symbols)}}
	for i := range uint32(symbols) {
		t.symbols = append(t.symbols, 0x50+i, 0x80000010*i+0x1234, 0xEE, 0xFFF00000+i)
	}
	for i := range uint32(relas) {
		sym := uint32(0)
		if symbols > 0 {
			sym = i % uint32(symbols)
		}
		t.relas = append(t.relas, 0xA0000000+4*i, sym<<8+(37*i+5)&0xFF, 0x70000001*i)
	}
	return t.tagged()
}

// tagged returns the tables with the pairs that belong to them.
func (t tables) tagged() tables {
	hash := uint32(base + 8*7)
	symbols := hash + uint32(4*len(t.hash))
	relas := symbols + uint32(4*len(t.symbols))
	t.pairs = []pair{
		{dyn.Hash, hash}, {dyn.Symtab, symbols}, {dyn.SymEnt, 16},
		{dyn.Rela, relas}, {dyn.RelaSz, uint32(4 * len(t.relas))}, {dyn.RelaEnt, 12}, {},
	}
	return t
}

// with returns the tables with another value of a tag.
func (t tables) with(tag, value uint32) tables {
	t.pairs = slices.Clone(t.pairs)
	for i, p := range t.pairs {
		if p[0] == tag {
			t.pairs[i][1] = value
		}
	}
	return t
}

// without returns the tables without some tags. Pairs with unknown tags stand in
// their places, so that the addresses stay as they are.
func (t tables) without(tags ...uint32) tables {
	t.pairs = slices.Clone(t.pairs)
	for i, p := range t.pairs {
		if slices.Contains(tags, p[0]) {
			t.pairs[i][0] = 0x1000 + p[0]
		}
	}
	return t
}

// replaced returns the tables with other pairs, followed by as many bytes as keep
// the addresses as they are.
func (t tables) replaced(pairs ...pair) tables {
	t.pairs = slices.Clone(pairs)
	for len(t.pairs) < 7 {
		t.pairs = append(t.pairs, pair{})
	}
	return t
}

func (t tables) section() []byte {
	var b []byte
	for _, p := range t.pairs {
		b = append(b, words(p[:]...)...)
	}
	return b
}

func (t tables) contents() []byte {
	return slices.Concat(t.section(), words(t.hash...), words(t.symbols...), words(t.relas...))
}

// draft returns a file with one more segment, which holds the tables.
func (t tables) draft() draft {
	b := t.contents()
	n := uint32(8 * len(t.pairs))
	return draft{[]segment{code(), {base, b, roundUp(len(b)), 4}}, []uint32{base, n, n}}
}

func (t tables) bytes() []byte {
	return t.draft().bytes()
}

func roundUp(n int) uint32 {
	return uint32(n+3) / 4 * 4
}

// plain returns a file in which empty lists of symbols or relocations are nil.
func plain(f api.File) api.File {
	if len(f.Symbols) == 0 {
		f.Symbols = nil
	}
	if len(f.Relas) == 0 {
		f.Relas = nil
	}
	return f
}

// readSlowly reads a file as the chapter tells it, byte by byte.
func readSlowly(f []byte) (api.File, api.Errno) {
	entry, segments, dynamic, e := elf.Segments(f)
	if e != api.OK {
		return api.File{}, e
	}
	file := api.File{Entry: entry, Segments: segments}
	if len(dynamic) == 1 {
		pairs, ok := pairsSlowly(segments, dynamic[0])
		ok = ok && symbolsSlowly(&file, pairs)
		ok = ok && relasSlowly(&file, pairs)
		if !ok {
			return api.File{}, api.ErrDyn
		}
	}
	return plain(file), api.OK
}

// slice returns the integers at an address, and whether all their bytes are in
// one segment.
func slice(segments []api.Segment, start uint32, integers int) ([]uint32, bool) {
	for _, s := range segments {
		var l []uint32
		for i := range integers {
			var x uint32
			for k := range 4 {
				at := int64(start) + int64(4*i+k) - int64(s.Addr)
				if at < 0 || at >= int64(len(s.Bytes)) {
					break
				}
				x += uint32(s.Bytes[at]) << (8 * k)
				if k == 3 {
					l = append(l, x)
				}
			}
		}
		if len(l) == integers {
			return l, true
		}
	}
	return nil, integers == 0
}

func pairsSlowly(segments []api.Segment, h elf.Header) ([]pair, bool) {
	whole := false
	for _, s := range segments {
		whole = whole || h.Addr >= s.Addr && int64(h.Addr)+int64(h.File) <= int64(s.Addr)+int64(len(s.Bytes))
	}
	if !whole || h.File != h.Mem {
		return nil, false
	}
	var pairs []pair
	for i := uint32(0); i+8 <= h.File; i += 8 {
		l, _ := slice(segments, h.Addr+i, 2)
		if l[0] == 0 {
			return pairs, true
		}
		if _, found := valueOf(pairs, l[0]); found {
			return nil, false
		}
		pairs = append(pairs, pair{l[0], l[1]})
	}
	return nil, false
}

func valueOf(pairs []pair, tag uint32) (uint32, bool) {
	for _, p := range pairs {
		if p[0] == tag {
			return p[1], true
		}
	}
	return 0, false
}

func symbolsSlowly(file *api.File, pairs []pair) bool {
	hash, hashed := valueOf(pairs, 4)
	symtab, present := valueOf(pairs, 6)
	entrySize, _ := valueOf(pairs, 11)
	if !present {
		return true
	}
	top, ok := slice(file.Segments, hash, 2)
	if !hashed || !ok || top[1] > 64 || entrySize != 16 {
		return false
	}
	all, ok := slice(file.Segments, symtab, 4*int(top[1]))
	for i := 1; i < len(all); i += 4 {
		file.Symbols = append(file.Symbols, all[i])
	}
	return ok
}

func relasSlowly(file *api.File, pairs []pair) bool {
	rela, present := valueOf(pairs, 7)
	size, _ := valueOf(pairs, 8)
	entrySize, _ := valueOf(pairs, 9)
	if !present {
		return size == 0
	}
	if entrySize != 12 || size > 64*12 || size%12 != 0 {
		return false
	}
	all, ok := slice(file.Segments, rela, int(size)/4)
	for l := range slices.Chunk(all, 3) {
		r := api.Rela{At: l[0], Type: int(l[1] % 256), Sym: int(l[1] / 256), Add: l[2]}
		if r.Sym > 0 && r.Sym >= len(file.Symbols) {
			return false
		}
		file.Relas = append(file.Relas, r)
	}
	return ok
}

// expect checks what Read says of f, whose error should be want.
func expect(t *testing.T, want api.Errno, f []byte, what string) {
	t.Helper()
	slow, e := readSlowly(f)
	if e != want {
		t.Errorf("%s: the slow reading's error is %d, want %d", what, e, want)
	}
	before := bytes.Clone(f)
	got, e := dyn.Read(f)
	if e != want || !reflect.DeepEqual(plain(got), slow) {
		t.Errorf("%s:\ngot  %+v, %d\nwant %+v, %d\nfile %X", what, got, e, slow, want, f)
	}
	if !bytes.Equal(f, before) {
		t.Errorf("%s: the file was modified", what)
	}
}

func okIf(ok bool) api.Errno {
	if ok {
		return api.OK
	}
	return api.ErrDyn
}
