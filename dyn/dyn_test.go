package dyn_test

import (
	"bytes"
	"math"
	"math/rand"
	"reflect"
	"slices"
	"strconv"
	"testing"

	"portico/api"
	"portico/dyn"
	"portico/elf"
)

// A file that wasn't written by the tests' draft: code at 1000, and at 2000 a
// dynamic section, a hash table, two symbols and two relocations.
const knownText = elf.Ident +
	"\x03\x00\xf3\x00\x01\x00\x00\x00\x04\x10\x00\x00\x34\x00\x00\x00\x00\x00\x00\x00\x00\x00\x00\x00\x34\x00\x20\x00\x03\x00\x28\x00\x00\x00\x00\x00" +
	"\x01\x00\x00\x00\x94\x00\x00\x00\x00\x10\x00\x00\x00\x10\x00\x00\x08\x00\x00\x00\x10\x00\x00\x00\x05\x00\x00\x00\x04\x00\x00\x00" +
	"\x01\x00\x00\x00\x9c\x00\x00\x00\x00\x20\x00\x00\x00\x20\x00\x00\x80\x00\x00\x00\x90\x00\x00\x00\x06\x00\x00\x00\x04\x00\x00\x00" +
	"\x02\x00\x00\x00\x9c\x00\x00\x00\x00\x20\x00\x00\x00\x20\x00\x00\x40\x00\x00\x00\x40\x00\x00\x00\x06\x00\x00\x00\x04\x00\x00\x00" +
	"\x13\x00\x00\x00\x73\x00\x00\x00" +
	"\x06\x00\x00\x00\x48\x20\x00\x00" + "\x05\x00\x00\x00\xff\xff\xff\xff" + "\x08\x00\x00\x00\x18\x00\x00\x00" + "\x07\x00\x00\x00\x68\x20\x00\x00" +
	"\x0b\x00\x00\x00\x10\x00\x00\x00" + "\x04\x00\x00\x00\x40\x20\x00\x00" + "\x09\x00\x00\x00\x0c\x00\x00\x00" + "\x00\x00\x00\x00\x01\x02\x03\x04" +
	"\x01\x00\x00\x00\x02\x00\x00\x00" +
	"\x11\x12\x13\x14\x15\x16\x17\x18\x19\x1a\x1b\x1c\x1d\x1e\x1f\x20" + "\x21\x22\x23\x24\x25\x26\x27\xf8\x29\x2a\x2b\x2c\x2d\x2e\x2f\x30" +
	"\x04\x20\x00\x00\x03\x01\x00\x00\xfc\xff\xff\xff" + "\x85\x20\x00\x80\xff\x00\x00\x00\x78\x56\x34\x92"

// manyTables returns tables as great as they may be.
func manyTables() tables {
	return someTables(64, 64)
}

func TestKnown(t *testing.T) {
	f := []byte(knownText)
	got, e := dyn.Read(f)
	want := api.File{
		Entry: 0x1004,
		Segments: []api.Segment{
			{Addr: 0x1000, Bytes: f[0x94:0x9C], Size: 16, Rights: api.Read + api.Exec},
			{Addr: 0x2000, Bytes: f[0x9C:0x11C], Size: 0x90, Rights: api.Read + api.Write},
		},
		Relas:   []api.Rela{{At: 0x2004, Type: 3, Sym: 1, Add: 0xFFFFFFFC}, {At: 0x80002085, Type: 0xFF, Sym: 0, Add: 0x92345678}},
		Symbols: []uint32{0x18171615, 0xF8272625},
	}
	if e != api.OK || !reflect.DeepEqual(got, want) {
		t.Errorf("got %+v, %d", got, e)
	}
	expect(t, api.OK, f, "the known file")
}

func TestConstants(t *testing.T) {
	got := [...]int{dyn.Hash, dyn.Symtab, dyn.Rela, dyn.RelaSz, dyn.RelaEnt, dyn.SymEnt}
	if got != [...]int{4, 6, 7, 8, 9, 11} {
		t.Errorf("got %d", got)
	}
}

// The chapter's example.
func TestTagZeroAlone(t *testing.T) {
	for _, value := range []uint32{0, 1, 6, math.MaxUint32} {
		f := tables{pairs: []pair{{0, value}}}.bytes()
		expect(t, api.OK, f, "tag 0 alone")
		if file, e := dyn.Read(f); e != api.OK || len(file.Symbols) != 0 || len(file.Relas) != 0 || len(file.Segments) != 2 {
			t.Errorf("tag 0 with the value %d: got %+v, %d", value, file, e)
		}
	}
}

func TestNoDynamicHeader(t *testing.T) {
	for _, x := range []tables{someTables(3, 2), someTables(3, 2).with(dyn.SymEnt, 3), {pairs: []pair{{5, 0}, {5, 0}}}} {
		d := x.draft()
		d.dynamic = nil
		expect(t, api.OK, d.bytes(), "tables without a Dynamic header")
		if file, e := dyn.Read(d.bytes()); e != api.OK || len(file.Symbols) != 0 || len(file.Relas) != 0 || len(file.Segments) != 2 {
			t.Errorf("got %+v, %d", file, e)
		}
	}
}

func TestSegmentsErrorFirst(t *testing.T) {
	for _, x := range []tables{someTables(3, 2), someTables(3, 2).with(dyn.SymEnt, 3), {pairs: []pair{{5, 0}, {5, 0}}}} {
		f := x.bytes()
		expect(t, api.ErrElf, f[:len(f)-1], "a cut file")
		d := x.draft()
		d.segments[1].flags = 7
		expect(t, api.ErrLoad, d.bytes(), "Write and Exec")
		d.segments[1].flags, d.segments[0].flags = 4, 4
		expect(t, api.ErrLoad, d.bytes(), "no code")
		d.segments[0].flags, d.segments[1].addr = 5, 0
		expect(t, api.ErrLoad, d.bytes(), "overlapping segments")
		d.segments[1].addr, d.dynamic[2] = base, d.dynamic[1]-1
		expect(t, api.ErrElf, d.bytes(), "more bytes of the section in the file than in memory")
	}
	f := someTables(3, 2).draft()
	f.segments = append(f.segments, segment{0x3000, nil, 4, 4})
	two := f.bytes()
	two[52+2*32] = elf.Dynamic
	expect(t, api.ErrLoad, two, "two Dynamic headers")
	for _, b := range [][]byte{nil, {}, []byte("\x7fELF"), make([]byte, 200)} {
		expect(t, api.ErrElf, b, "no file")
	}
}

// Beside an error there is nothing else.
func TestNothingBesideErrors(t *testing.T) {
	badSymbol := someTables(3, 2)
	badSymbol.relas[4] = 3 << 8
	badEntry := someTables(3, 2).draft()
	badEntry.segments[0].flags = 4
	for i, f := range [][]byte{
		nil, badSymbol.bytes(), badEntry.bytes(), someTables(3, 2).with(dyn.SymEnt, 0).bytes(),
		someTables(3, 2).with(dyn.Rela, 0).bytes(), someTables(3, 2).without(0).bytes(),
	} {
		if file, e := dyn.Read(f); e == api.OK || !reflect.DeepEqual(file, api.File{}) {
			t.Errorf("file %d: got %+v, %d", i, file, e)
		}
	}
}

// Every result is memory of its own.
func TestOwnMemory(t *testing.T) {
	f := someTables(5, 5).bytes()
	first, e := dyn.Read(f)
	second, _ := dyn.Read(f)
	want, _ := readSlowly(f)
	if e != api.OK {
		t.Fatal(e)
	}
	clear(f)
	for i := range first.Segments {
		clear(first.Segments[i].Bytes)
	}
	clear(first.Segments)
	if !reflect.DeepEqual(first.Symbols, want.Symbols) || !reflect.DeepEqual(first.Relas, want.Relas) {
		t.Error("the symbols or the relocations share memory with the file or the segments")
	}
	clear(first.Symbols)
	clear(first.Relas)
	if !reflect.DeepEqual(second, want) {
		t.Error("a file shares memory with another one, or with the bytes that were passed")
	}
}

// Every value of every byte of two files.
func TestEveryByte(t *testing.T) {
	for _, f := range [][]byte{[]byte(knownText), someTables(1, 1).bytes()} {
		for i := range f {
			for x := range 256 {
				changed := bytes.Clone(f)
				changed[i] = byte(x)
				_, e := readSlowly(changed)
				expect(t, e, changed, "byte "+strconv.Itoa(i)+" is "+strconv.Itoa(x))
			}
		}
	}
}

// anyTables returns random tables, most of them with one or two faults or none.
func anyTables(r *rand.Rand) tables {
	t := someTables(r.Intn(6), r.Intn(6))
	if r.Intn(20) == 0 {
		t = manyTables()
	}
	r.Shuffle(6, func(i, k int) { t.pairs[i], t.pairs[k] = t.pairs[k], t.pairs[i] })
	for range r.Intn(3) {
		p := &t.pairs[r.Intn(7)]
		switch r.Intn(6) {
		case 0:
			p[0] = uint32(r.Intn(13))
		case 1:
			p[1] += uint32(r.Intn(65) - 32)
		case 2:
			p[1] = base + uint32(r.Intn(300))
		case 3:
			p[1] = r.Uint32()
		case 4:
			t.hash[1] = uint32(r.Intn(70))
		case 5:
			if len(t.relas) > 0 {
				t.relas[1+3*r.Intn(len(t.relas)/3)] = uint32(r.Intn(7 * 256))
			}
		}
	}
	return t
}

// anyDraft returns the draft of random tables, whose segment is sometimes split
// into two that touch or don't, or holds fewer bytes.
func anyDraft(r *rand.Rand) draft {
	d := anyTables(r).draft()
	all := d.segments[1]
	split := 4 * r.Intn(len(all.bytes)/4)
	switch r.Intn(8) {
	case 0:
		d.dynamic[0] += uint32(r.Intn(9) - 4)
	case 1:
		d.dynamic[1] = uint32(r.Intn(100))
		d.dynamic[2] = d.dynamic[1]
	case 2:
		d.dynamic[2] += uint32(r.Intn(2))
	case 3:
		d.segments[1].bytes = all.bytes[:split]
	case 4:
		if split > 0 {
			d.segments = []segment{code(), {base, all.bytes[:split], uint32(split), 4}, {base + uint32(split), all.bytes[split:], all.mem - uint32(split), 6}}
		}
	}
	return d
}

func TestRandom(t *testing.T) {
	r := rand.New(rand.NewSource(9))
	count := map[api.Errno]int{}
	for range 20000 {
		f := anyDraft(r).bytes()
		_, e := readSlowly(f)
		count[e]++
		expect(t, e, f, "random tables")
	}
	if count[api.OK] < 2000 || count[api.ErrDyn] < 2000 {
		t.Errorf("the tables are too alike: %v", count)
	}
}

// Files whose bytes are random from some place on.
func TestRandomBytes(t *testing.T) {
	r := rand.New(rand.NewSource(10))
	for range 5000 {
		f := anyDraft(r).bytes()
		for range 1 + r.Intn(3) {
			f[52+r.Intn(len(f)-52)] = byte(r.Intn(256))
		}
		if r.Intn(4) == 0 {
			f = f[:r.Intn(len(f)+1)]
		}
		_, e := readSlowly(f)
		expect(t, e, f, "random bytes")
	}
}

func FuzzRead(f *testing.F) {
	f.Add([]byte(knownText))
	f.Add(someTables(2, 3).bytes())
	f.Add(slices.Concat([]byte(knownText), make([]byte, 9)))
	f.Fuzz(func(t *testing.T, b []byte) {
		_, e := readSlowly(b)
		expect(t, e, b, "fuzzed bytes")
	})
}
