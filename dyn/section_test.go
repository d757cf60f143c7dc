package dyn_test

import (
	"math"
	"slices"
	"testing"

	"portico/api"
	"portico/dyn"
)

// The section's bytes in the file and in memory must be equally many.
func TestFileAndMemory(t *testing.T) {
	d := someTables(2, 2).draft()
	n := d.dynamic[1]
	for _, x := range []struct{ file, mem uint32 }{
		{n, n}, {n + 8, n + 8}, {n, n + 1}, {n, n + 4}, {n, n + 8}, {n, 2 * n}, {n, math.MaxUint32}, {n, 1 << 31}, {n, n + 1<<16}, {0, 0}, {0, n}, {n - 8, n},
	} {
		d.dynamic = []uint32{base, x.file, x.mem}
		expect(t, okIf(x.file == x.mem && x.file >= n), d.bytes(), "bytes of the section in the file and in memory")
	}
}

// The section ends anywhere: the pair with tag 0 must be whole.
func TestLength(t *testing.T) {
	for _, pairs := range [][]pair{{{}}, {{0, math.MaxUint32}}, {{5, 0}, {}}, {{1, 1}, {2, 2}, {3, 3}, {0, 7}}} {
		b := tables{pairs: pairs}.section()
		for n := range len(b) + 17 {
			d := draft{[]segment{code(), {base, append(slices.Clone(b), make([]byte, 20)...), uint32(len(b)) + 20, 4}}, []uint32{base, uint32(n), uint32(n)}}
			expect(t, okIf(n >= len(b)), d.bytes(), "a length of the section")
		}
	}
}

// What follows the pair with tag 0 is ignored, but must be available.
func TestBehindTheEnd(t *testing.T) {
	for _, more := range [][]byte{
		{1}, words(5), words(5, 1), words(5, 1, 5, 2), words(6, 0), words(7, 0), words(8, 12), words(0, 0), words(0, 0, 0, 0), words(5, 5, 0), words(4, 0, 6, 0)[:13],
	} {
		b := slices.Concat(words(5, 1, 0, 0), more)
		n := uint32(len(b))
		d := draft{[]segment{code(), {base, b, roundUp(len(b)), 4}}, []uint32{base, n, n}}
		expect(t, api.OK, d.bytes(), "bytes behind the end")
		d.dynamic = []uint32{base, n + 1, n + 1}
		expect(t, api.ErrDyn, d.bytes(), "one byte more than there are")
	}
}

func TestNoEnd(t *testing.T) {
	expect(t, api.ErrDyn, tables{pairs: []pair{{1, 0}}}.bytes(), "a pair alone")
	expect(t, api.ErrDyn, tables{pairs: []pair{{1, 0}, {2, 0}}}.bytes(), "two pairs")
	expect(t, api.ErrDyn, someTables(2, 2).without(0).bytes(), "all tags but 0")
	d := tables{pairs: []pair{{}}}.draft()
	d.dynamic = []uint32{base, 0, 0}
	expect(t, api.ErrDyn, d.bytes(), "no pair")
	d.dynamic[0] = 0x90000000
	expect(t, api.ErrDyn, d.bytes(), "no pair, and no bytes there")
}

// No tag but 0 occurs twice, whatever its value is.
func TestTwice(t *testing.T) {
	for _, tag := range []uint32{1, 2, 3, 4, 5, 6, 7, 8, 9, 10, 11, 12, 255, 256, 0x6FFFFFFF, 0x80000000, math.MaxUint32} {
		for _, values := range [][2]uint32{{0, 0}, {0, 1}, {1, 0}, {1, 1}, {base, base}} {
			first, second := pair{tag, values[0]}, pair{tag, values[1]}
			expect(t, api.ErrDyn, tables{pairs: []pair{first, second, {}}}.bytes(), "a tag twice")
			expect(t, api.ErrDyn, tables{pairs: []pair{{100, 0}, first, {101, 0}, {102, 0}, second, {}}}.bytes(), "a tag twice, with others")
			if tag != dyn.Symtab && tag != dyn.Rela && tag != dyn.RelaSz {
				expect(t, api.OK, tables{pairs: []pair{first, {}, second}}.bytes(), "the second time behind the end")
			}
		}
	}
	for i := range 6 {
		x := someTables(2, 2)
		x.pairs = append(slices.Clone(x.pairs[:6]), x.pairs[i], pair{})
		expect(t, api.ErrDyn, x.bytes(), "a pair of good tables twice")
	}
}

func TestUnknownTags(t *testing.T) {
	for _, tag := range []uint32{1, 2, 3, 5, 10, 12, 17, 18, 19, 20, 23, 30, 0x104, 0x106, 0x107, 1 << 16, 6 << 16, 6 << 24, 0x6FFFFEF5, 0x80000006, math.MaxUint32} {
		for _, value := range []uint32{0, 1, base, math.MaxUint32} {
			expect(t, api.OK, tables{pairs: []pair{{tag, value}, {}}}.bytes(), "an unknown tag")
			x := someTables(2, 0).without(dyn.RelaEnt, dyn.RelaSz, dyn.Rela)
			x.pairs[4] = pair{tag, value}
			expect(t, api.OK, x.bytes(), "an unknown tag among others")
		}
	}
}

// The order of the tags makes no difference.
func TestOrder(t *testing.T) {
	x := someTables(3, 3)
	places := []int{0, 1, 2, 3, 4, 5}
	var walk func(k int)
	walk = func(k int) {
		if k == len(places) {
			y := x
			y.pairs = slices.Clone(x.pairs)
			for i, p := range places {
				y.pairs[i] = x.pairs[p]
			}
			expect(t, api.OK, y.bytes(), "another order")
			return
		}
		for i := k; i < len(places); i++ {
			places[k], places[i] = places[i], places[k]
			walk(k + 1)
			places[k], places[i] = places[i], places[k]
		}
	}
	walk(0)
}

// Every set of the tags, with good values.
func TestWhichTags(t *testing.T) {
	tags := []uint32{dyn.Hash, dyn.Symtab, dyn.SymEnt, dyn.Rela, dyn.RelaSz, dyn.RelaEnt}
	for set := range 1 << len(tags) {
		has := func(i int) bool { return set>>i&1 != 0 }
		for _, x := range []tables{someTables(0, 0), someTables(3, 0), someTables(0, 3), someTables(3, 3)} {
			for i, tag := range tags {
				if !has(i) {
					x = x.without(tag)
				}
			}
			good := !has(1) || has(0) && has(2)
			if has(3) {
				good = good && has(5)
				if has(4) && len(x.relas) > 0 && !has(1) && len(x.symbols) > 0 {
					good = false // relocations with symbols that aren't present
				}
			} else if has(4) && len(x.relas) > 0 {
				good = false
			}
			expect(t, okIf(good), x.bytes(), "a set of tags")
		}
	}
}

// The section is found by its address, in any one segment's bytes of the file.
func TestWhereTheSectionIs(t *testing.T) {
	b := words(0x05060708, 0x01020304, 0, math.MaxUint32) // no end of a section when read from another byte on
	for lead := range 9 {
		for tail := range 6 {
			all := slices.Concat(slices.Repeat([]byte{0xFF}, lead), b, slices.Repeat([]byte{0xFF}, tail))
			for at := range uint32(len(all)) {
				d := draft{[]segment{code(), {base, all, roundUp(len(all)) + 64, 4}}, []uint32{base + at, 16, 16}}
				expect(t, okIf(at == uint32(lead)), d.bytes(), "an address of the section")
			}
		}
	}
}

// Memory that the file has no bytes for isn't available, nor are bytes of two
// segments that touch.
func TestSectionAvailable(t *testing.T) {
	b := words(5, 1, 0, 0)
	good := draft{[]segment{code(), {base, b, 64, 4}}, []uint32{base, 16, 16}}
	expect(t, api.OK, good.bytes(), "a section at the start of a segment")
	for n := range 16 {
		d := draft{[]segment{code(), {base, b[:n], 64, 4}}, good.dynamic}
		expect(t, api.ErrDyn, d.bytes(), "a section of which bytes are missing")
	}
	for n := 4; n < 16; n += 4 {
		d := draft{[]segment{code(), {base, b[:n], uint32(n), 4}, {base + uint32(n), b[n:], 64, 4}}, good.dynamic}
		expect(t, api.ErrDyn, d.bytes(), "a section in two segments")
	}
	for _, at := range []uint32{0, 4, base - 8, base - 1, base + 1, base + 8, base + 16, base + 60, base + 64, 0x80000000 + base, math.MaxUint32, math.MaxUint32 - 7, math.MaxUint32 - 15} {
		d := draft{good.segments, []uint32{at, 16, 16}}
		expect(t, api.ErrDyn, d.bytes(), "no section there")
	}
	// Zeros in memory only, which would be a pair with tag 0.
	zeros := draft{[]segment{code(), {base, nil, 64, 6}}, []uint32{base, 8, 8}}
	expect(t, api.ErrDyn, zeros.bytes(), "zeros that aren't in the file")
}

// The section may be in any segment, whatever rights it has.
func TestSectionInAnySegment(t *testing.T) {
	b := words(5, 1, 0, 0)
	for i := range 3 {
		for _, flags := range []uint32{1, 2, 4, 5, 6} {
			d := draft{[]segment{code(), {base, words(1, 2, 3, 4), 16, 4}, {base + 16, words(1, 2, 3, 4), 16, 6}, {base + 32, words(1, 2, 3, 4), 32, 4}}, nil}
			d.segments[1+i].bytes, d.segments[1+i].flags = b, flags
			d.dynamic = []uint32{base + 16*uint32(i), 16, 16}
			expect(t, api.OK, d.bytes(), "a section in one of four segments")
		}
	}
	alone := draft{[]segment{{0, b, 16, 5}}, []uint32{0, 16, 16}}
	expect(t, api.OK, alone.bytes(), "a section in the code")
	last := draft{[]segment{code(), {0xFFFFFFEC, b, 16, 4}}, []uint32{0xFFFFFFEC, 16, 16}}
	expect(t, api.OK, last.bytes(), "a section at the end of the addresses")
}
