package dyn_test

import (
	"math"
	"slices"
	"testing"

	"portico/api"
	"portico/dyn"
)

// Every number of symbols that may be, and some that may not.
func TestNumberOfSymbols(t *testing.T) {
	for n := range 70 {
		x := someTables(n, 0)
		expect(t, okIf(n <= 64), x.bytes(), "a number of symbols")
		x.symbols = append(x.symbols, make([]uint32, 200)...)
		expect(t, okIf(n <= 64), x.bytes(), "a number of symbols, with bytes behind them")
		if file, _ := dyn.Read(x.bytes()); n <= 64 && len(file.Symbols) != n {
			t.Errorf("%d symbols: got %d", n, len(file.Symbols))
		}
	}
	// Numbers whose tables would have few bytes if sizes wrapped around.
	for _, n := range []uint32{65, 128, 256, 1 << 16, 1 << 24, 1 << 27, 1 << 28, 1<<28 + 1, 1<<28 + 64, 1 << 31, 1<<31 + 1, 15 << 28, math.MaxUint32} {
		x := someTables(64, 1)
		x.hash[1] = n
		expect(t, api.ErrDyn, x.bytes(), "a great number of symbols")
	}
	for n := range uint32(64) {
		x := someTables(64, 0)
		x.hash = []uint32{0, n}
		expect(t, api.OK, x.bytes(), "fewer symbols than there are bytes for")
	}
}

// The hash table's first integer doesn't matter, nor what follows the second one.
func TestHashTable(t *testing.T) {
	for _, x := range []uint32{0, 1, 2, 3, 64, 65, 1 << 31, math.MaxUint32} {
		y := someTables(2, 2)
		y.hash[0] = x
		expect(t, api.OK, y.bytes(), "another number of buckets")
	}
	y := someTables(2, 2)
	y.hash = append(y.hash, 1, 0, 0, 5)
	expect(t, api.OK, y.tagged().bytes(), "buckets and chains")
	for n := range uint32(8) {
		end := someTables(2, 0)
		b := end.contents()
		b = append(b, words(7, 2)...)
		end = end.with(dyn.Hash, base+uint32(len(b))-n)
		at := uint32(8 * len(end.pairs))
		copy(b, end.section())
		d := draft{[]segment{code(), {base, b, roundUp(len(b)) + 16, 4}}, []uint32{base, at, at}}
		expect(t, okIf(n == 8), d.bytes(), "the hash table's bytes end too early")
	}
}

func TestNoHash(t *testing.T) {
	expect(t, api.ErrDyn, someTables(2, 0).without(dyn.Hash).bytes(), "no Hash")
	expect(t, api.ErrDyn, someTables(0, 0).without(dyn.Hash).bytes(), "no Hash and no symbols")
	// An absent tag has the value 0, where there is a good hash table here.
	for count := range uint32(3) {
		section := words(dyn.Symtab, 8, dyn.SymEnt, 16, 0, 0)
		b := slices.Concat(words(0, count), make([]byte, 32), section)
		d := draft{[]segment{{0, b, uint32(len(b)), 5}}, []uint32{40, 24, 24}}
		expect(t, api.ErrDyn, d.bytes(), "no Hash, and a table at 0")
		section = words(dyn.Symtab, 8, dyn.SymEnt, 16, dyn.Hash, 0, 0, 0)
		b = slices.Concat(words(0, count), make([]byte, 32), section)
		d = draft{[]segment{{0, b, uint32(len(b)), 5}}, []uint32{40, 32, 32}}
		expect(t, api.OK, d.bytes(), "Hash 0, and a table at 0")
	}
}

// A tag whose value is 0 is present.
func TestTablesAtZero(t *testing.T) {
	symbols := words(1, 2, 3, 4, 5, 6, 7, 8, 0, 2)
	section := words(dyn.Symtab, 0, dyn.SymEnt, 16, dyn.Hash, 32, 0, 0)
	d := draft{[]segment{{0, slices.Concat(symbols, section), 72, 5}}, []uint32{40, 32, 32}}
	expect(t, api.OK, d.bytes(), "symbols at 0")
	if file, _ := dyn.Read(d.bytes()); !slices.Equal(file.Symbols, []uint32{2, 6}) {
		t.Errorf("symbols at 0: got %d", file.Symbols)
	}
	relas := words(1, 2, 3)
	section = words(dyn.Rela, 0, dyn.RelaSz, 12, dyn.RelaEnt, 12, 0, 0)
	d = draft{[]segment{{0, slices.Concat(relas, section), 44, 5}}, []uint32{12, 32, 32}}
	expect(t, api.OK, d.bytes(), "relocations at 0")
	if file, _ := dyn.Read(d.bytes()); !slices.Equal(file.Relas, []api.Rela{{At: 1, Type: 2, Add: 3}}) {
		t.Errorf("relocations at 0: got %+v", file.Relas)
	}
}

func TestSizesOfEntries(t *testing.T) {
	others := []uint32{0, 1, 4, 8, 11, 12, 13, 15, 16, 17, 20, 24, 32, 12 << 8, 16 << 8, 12 << 16, 1<<31 + 12, 1<<31 + 16, math.MaxUint32}
	for _, n := range others {
		for _, x := range []tables{someTables(2, 2), someTables(0, 0), someTables(1, 0), someTables(0, 1)} {
			expect(t, okIf(n == 16), x.with(dyn.SymEnt, n).bytes(), "SymEnt")
			expect(t, okIf(n == 12), x.with(dyn.RelaEnt, n).bytes(), "RelaEnt")
		}
		expect(t, api.OK, someTables(2, 0).without(dyn.Symtab).with(dyn.SymEnt, n).bytes(), "SymEnt without Symtab")
		expect(t, api.OK, someTables(2, 0).without(dyn.Rela).with(dyn.RelaEnt, n).bytes(), "RelaEnt without Rela")
	}
}

// Without Symtab nothing is read at Hash.
func TestNoSymtab(t *testing.T) {
	for _, at := range []uint32{0, base, base + 1, 0x90000000, math.MaxUint32} {
		x := someTables(2, 0).without(dyn.Symtab).with(dyn.Hash, at)
		expect(t, api.OK, x.bytes(), "Hash without Symtab")
		if file, _ := dyn.Read(x.bytes()); len(file.Symbols) != 0 {
			t.Errorf("symbols without Symtab: got %d", file.Symbols)
		}
	}
	x := someTables(2, 0).without(dyn.Symtab)
	x.hash[1] = 65
	expect(t, api.OK, x.bytes(), "a bad hash table without Symtab")
}

// Without Rela there is no size but 0.
func TestNoRela(t *testing.T) {
	for _, n := range []uint32{0, 1, 4, 11, 12, 13, 24, 768, 780, 1 << 31, math.MaxUint32} {
		expect(t, okIf(n == 0), someTables(2, 2).without(dyn.Rela).with(dyn.RelaSz, n).bytes(), "RelaSz without Rela")
		expect(t, okIf(n == 0), someTables(2, 2).replaced(pair{dyn.RelaSz, n}).bytes(), "RelaSz alone")
	}
	expect(t, api.OK, someTables(2, 2).without(dyn.Rela, dyn.RelaSz).bytes(), "RelaEnt without Rela and RelaSz")
}

func TestRelaSz(t *testing.T) {
	x := someTables(64, 80)
	for i := 1; i < len(x.relas); i += 3 {
		x.relas[i] = 3
	}
	for n := range uint32(960) {
		y := x.with(dyn.RelaSz, n)
		expect(t, okIf(n%12 == 0 && n <= 768), y.bytes(), "RelaSz")
		if file, _ := dyn.Read(y.bytes()); n%12 == 0 && n <= 768 && len(file.Relas) != int(n/12) {
			t.Errorf("RelaSz %d: got %d relocations", n, len(file.Relas))
		}
	}
	for _, n := range []uint32{960, 1536, 12 << 8, 12 << 16, 12 << 24, 3 << 30, 1<<31 - 8, 1 << 31, 1<<31 + 4, math.MaxUint32 - 3, math.MaxUint32} {
		expect(t, api.ErrDyn, x.with(dyn.RelaSz, n).bytes(), "a great RelaSz")
	}
	expect(t, api.OK, x.without(dyn.RelaSz).bytes(), "Rela without RelaSz")
	expect(t, api.ErrDyn, x.without(dyn.RelaSz, dyn.RelaEnt).bytes(), "Rela without RelaSz and RelaEnt")
}

// A table's bytes are the last ones of its segment, or one more than there are.
func TestTablesAvailable(t *testing.T) {
	for n := 1; n <= 64; n += 9 {
		relasLast := someTables(2, n)
		symbolsLast := someTables(n, 0).without(dyn.Rela, dyn.RelaSz, dyn.RelaEnt)
		for _, x := range []tables{relasLast, symbolsLast} {
			d := x.draft()
			all := d.segments[1].bytes
			expect(t, api.OK, d.bytes(), "a table that ends with its segment")
			for missing := 1; missing < 9; missing++ {
				d.segments[1].bytes = all[:len(all)-missing]
				expect(t, api.ErrDyn, d.bytes(), "a table of which bytes are missing")
			}
			cut := uint32(len(all) - 4)
			d.segments = []segment{code(), {base, all[:cut], cut, 4}, {base + cut, all[cut:], 4, 4}}
			expect(t, api.ErrDyn, d.bytes(), "a table in two segments")
		}
	}
}

// Each table at every address around a segment of its own.
func TestWhereTablesAre(t *testing.T) {
	contents := map[uint32][]byte{
		dyn.Hash: words(9, 2), dyn.Symtab: words(1, 2, 3, 4, 5, 6, 7, 8), dyn.Rela: words(1, 0, 3, 5, 0, 7),
	}
	for tag, b := range contents {
		for lead := range 3 {
			for tail := range 3 {
				all := slices.Concat(make([]byte, lead), b, make([]byte, tail))
				for _, far := range []uint32{0x4000, 0x80000000, 0xFFFFFFFC - roundUp(len(all))} {
					for at := far - 5; at != far+uint32(len(all))+5; at++ {
						d := someTables(2, 2).with(tag, at).draft()
						d.segments = append(d.segments, segment{far, all, roundUp(len(all)), 6})
						_, e := readSlowly(d.bytes())
						inside := int64(at) >= int64(far) && int64(at) <= int64(far)+int64(lead)+int64(tail)
						if !inside && e != api.ErrDyn || at == far+uint32(lead) && e != api.OK {
							t.Fatalf("tag %d at %X: the slow reading's error is %d", tag, at, e)
						}
						expect(t, e, d.bytes(), "an address of a table")
					}
				}
			}
		}
		for _, at := range []uint32{0, 4, base - 1, math.MaxUint32, math.MaxUint32 - 3, math.MaxUint32 - 7, 1 << 31} {
			expect(t, api.ErrDyn, someTables(2, 2).with(tag, at).bytes(), "no table there")
		}
	}
}

// A table of no bytes need not be available, but all else must be right.
func TestEmptyTables(t *testing.T) {
	for _, at := range []uint32{0, 3, base, base + 1000, 1 << 31, math.MaxUint32} {
		noSymbols, noRelas := someTables(0, 2).with(dyn.Symtab, at), someTables(2, 0).with(dyn.Rela, at)
		expect(t, api.OK, noSymbols.bytes(), "no symbols")
		expect(t, api.OK, noRelas.bytes(), "no relocations")
		expect(t, api.OK, noRelas.without(dyn.RelaSz).bytes(), "no relocations and no RelaSz")
		expect(t, api.ErrDyn, noSymbols.with(dyn.SymEnt, 0).bytes(), "no symbols, and a bad SymEnt")
		expect(t, api.ErrDyn, noSymbols.without(dyn.SymEnt).bytes(), "no symbols and no SymEnt")
		expect(t, api.ErrDyn, noRelas.with(dyn.RelaEnt, 0).bytes(), "no relocations, and a bad RelaEnt")
		expect(t, api.ErrDyn, noRelas.without(dyn.RelaEnt).bytes(), "no relocations and no RelaEnt")
		expect(t, api.ErrDyn, noSymbols.with(dyn.Hash, 0x90000000).bytes(), "no symbols and no hash table")
		expect(t, api.ErrDyn, noSymbols.without(dyn.Hash).bytes(), "no symbols and no Hash")
	}
}

// Tables may be the same bytes, and need not be at multiples of 4.
func TestOverlappingTables(t *testing.T) {
	x := someTables(4, 4)
	for shift := range uint32(40) {
		for _, tag := range []uint32{dyn.Symtab, dyn.Rela, dyn.Hash} {
			y := x.with(tag, base+8*7+shift)
			_, e := readSlowly(y.bytes())
			if tag == dyn.Symtab && e != api.OK {
				t.Fatalf("symbols at %d: the slow reading's error is %d", shift, e)
			}
			expect(t, e, y.bytes(), "overlapping tables")
		}
	}
}

// The type is the info's lowest byte, the symbol is the rest.
func TestTypesAndSymbols(t *testing.T) {
	for kind := range uint32(256) {
		for _, sym := range []uint32{0, 1, 63} {
			x := someTables(64, 1)
			x.relas[1] = sym<<8 + kind
			expect(t, api.OK, x.bytes(), "a type")
			want := []api.Rela{{At: 0xA0000000, Type: int(kind), Sym: int(sym)}}
			if file, e := dyn.Read(x.bytes()); e != api.OK || !slices.Equal(file.Relas, want) {
				t.Errorf("type %d of symbol %d: got %+v, %d", kind, sym, file.Relas, e)
			}
		}
	}
}

func TestSymbolsOfRelocations(t *testing.T) {
	for _, n := range []int{0, 1, 2, 3, 16, 63, 64} {
		for _, sym := range []uint32{0, 1, 2, 3, 15, 16, 62, 63, 64, 65, 255, 256, 1 << 16, 1 << 23, 1<<24 - 1} {
			good := sym == 0 || int(sym) < n
			for place := range 3 {
				x := someTables(n, 3)
				x.relas[3*place+1] = sym<<8 + 0xFF
				expect(t, okIf(good), x.bytes(), "a relocation's symbol")
				noSymbols := x.without(dyn.Symtab)
				for _, k := range []int{1, 4, 7} {
					noSymbols.relas = slices.Clone(noSymbols.relas)
					if k != 3*place+1 {
						noSymbols.relas[k] = 1
					}
				}
				expect(t, okIf(sym == 0), noSymbols.bytes(), "a relocation's symbol without symbols")
			}
		}
	}
}

// Addresses, addends and values are any integers.
func TestAnyIntegers(t *testing.T) {
	for _, n := range []uint32{0, 1, 3, 0x7FFFFFFF, 1 << 31, 1<<31 + 1, 0xFFFFFF00, math.MaxUint32} {
		x := someTables(1, 1)
		x.relas = []uint32{n, 1, ^n}
		x.symbols = []uint32{^n, n, ^n, ^n}
		expect(t, api.OK, x.bytes(), "any integers")
		file, e := dyn.Read(x.bytes())
		if e != api.OK || !slices.Equal(file.Relas, []api.Rela{{At: n, Type: 1, Add: ^n}}) || !slices.Equal(file.Symbols, []uint32{n}) {
			t.Errorf("%X: got %+v, %X, %d", n, file.Relas, file.Symbols, e)
		}
	}
}

// The greatest tables that may be.
func TestMany(t *testing.T) {
	file, e := dyn.Read(manyTables().bytes())
	if e != api.OK || len(file.Symbols) != 64 || len(file.Relas) != 64 {
		t.Errorf("got %d symbols, %d relocations, %d", len(file.Symbols), len(file.Relas), e)
	}
	expect(t, api.OK, manyTables().bytes(), "64 symbols and 64 relocations")
	expect(t, api.ErrDyn, someTables(64, 65).bytes(), "65 relocations")
	expect(t, api.ErrDyn, someTables(65, 64).bytes(), "65 symbols")
}
