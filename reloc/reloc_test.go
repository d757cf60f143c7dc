package reloc_test

import (
	"math"
	"math/rand"
	"reflect"
	"slices"
	"testing"

	"portico/api"
	"portico/inst"
	"portico/place"
	"portico/reloc"
)

func TestNumbersOfTypes(t *testing.T) {
	got := []int{
		reloc.Word, reloc.Relative, reloc.Branch, reloc.Jal, reloc.Call, reloc.CallPlt,
		reloc.PcHi, reloc.PcLoI, reloc.PcLoS, reloc.Hi, reloc.LoI, reloc.LoS,
	}
	if !slices.Equal(got, types) {
		t.Errorf("%v", got)
	}
}

func TestUpper(t *testing.T) {
	for _, k := range []struct{ v, want uint32 }{
		{0x12345FFF, 0x12346000}, {0x123457FF, 0x12345000}, {0x12345800, 0x12346000}, {0x12345000, 0x12345000},
		{0, 0}, {0x7FF, 0}, {0x800, 0x1000}, {0xFFF, 0x1000}, {0x1000, 0x1000},
		{0xFFFFFFFF, 0}, {0xFFFFF800, 0}, {0xFFFFF7FF, 0xFFFFF000}, {0x7FFFF800, 0x80000000}, {0x80000000, 0x80000000},
	} {
		if got := reloc.Upper(k.v); got != k.want {
			t.Errorf("Upper(%x) is %x, want %x", k.v, got, k.want)
		}
	}
	r := rand.New(rand.NewSource(1))
	for i := range 1 << 16 {
		for _, v := range []uint32{uint32(i), uint32(-i), r.Uint32(), base + uint32(i)} {
			if got := reloc.Upper(v); int64(got) != upper(int64(v)) {
				t.Fatalf("Upper(%x) is %x, want %x", v, got, upper(int64(v)))
			}
		}
	}
}

// applied returns the words from code on after relocations that refer to memory
// from code on, with the symbols 0 and code + 10 (base 16) as loaded.
func applied(t *testing.T, words []uint32, relas ...api.Rela) []uint32 {
	t.Helper()
	m := place.NewMemory()
	for i, w := range words {
		m.Store(code+uint32(4*i), 4, w)
	}
	f := api.File{Relas: relas, Symbols: []uint32{0, code + 0x10 - bias}}
	if e := reloc.Apply(m, f, bias, []place.Span{{Start: code, Size: uint32(4 * len(words))}}); e != api.OK {
		t.Errorf("%+v: error %d", relas, e)
	}
	var got []uint32
	for i := range words {
		w, _ := m.Load(code+uint32(4*i), 4)
		got = append(got, w)
	}
	return got
}

// The words are those that the assembler of the RISC-V tools makes.
func TestEachType(t *testing.T) {
	const at = code - bias
	for _, k := range []struct {
		what        string
		words, want []uint32
		relas       []api.Rela
	}{
		{"Word", []uint32{0x11111111}, []uint32{0x80002014}, []api.Rela{{At: at, Type: 1, Sym: 1, Add: 4}}},
		{"Word of no symbol", []uint32{0x11111111}, []uint32{0xFFFFFFFE}, []api.Rela{{At: at, Type: 1, Add: 0xFFFFFFFE}}},
		{"Relative", []uint32{0x11111111}, []uint32{0x80001204}, []api.Rela{{At: at, Type: 3, Add: 0x204}}},
		{"beq a0, zero, +16", []uint32{0x00050063}, []uint32{0x00050863}, []api.Rela{{At: at, Type: 16, Sym: 1}}},
		{"bne a0, zero, -4", []uint32{0x00051063}, []uint32{0xFE051EE3}, []api.Rela{{At: at, Type: 16, Sym: 1, Add: 0xFFFFFFEC}}},
		{"jal ra, +16", []uint32{0x000000EF}, []uint32{0x010000EF}, []api.Rela{{At: at, Type: 17, Sym: 1}}},
		{"jal zero, +2048", []uint32{0x0000006F}, []uint32{0x0010006F}, []api.Rela{{At: at, Type: 17, Sym: 1, Add: 0x7F0}}},
		{"jal zero, -4", []uint32{0xFFFFF06F}, []uint32{0xFFDFF06F}, []api.Rela{{At: at, Type: 17, Sym: 1, Add: 0xFFFFFFEC}}},
		{"call +16", []uint32{0x00000097, 0x000080E7}, []uint32{0x00000097, 0x010080E7}, []api.Rela{{At: at, Type: 18, Sym: 1}}},
		{"call +0x1FFC", []uint32{0x00000097, 0x000080E7}, []uint32{0x00002097, 0xFFC080E7}, []api.Rela{{At: at, Type: 18, Sym: 1, Add: 0x1FEC}}},
		{"call -2052", []uint32{0x00000317, 0x00030067}, []uint32{0xFFFFF317, 0x7FC30067}, []api.Rela{{At: at, Type: 19, Sym: 1, Add: 0xFFFFF7EC}}},
		{"lui and addi", []uint32{0x00000537, 0x00050513}, []uint32{0x12346537, 0xFFF50513},
			[]api.Rela{{At: at, Type: 26, Add: 0x12345FFF}, {At: at + 4, Type: 27, Add: 0x12345FFF}}},
		{"lui and sw", []uint32{0x00000537, 0x00B52023}, []uint32{0x80002537, 0x00B52823},
			[]api.Rela{{At: at, Type: 26, Sym: 1}, {At: at + 4, Type: 28, Sym: 1}}},
		{"sw a1, -4(a0)", []uint32{0x00B52023}, []uint32{0xFEB52E23}, []api.Rela{{At: at, Type: 28, Add: 0xFFFFFFFC}}},
	} {
		if got := applied(t, k.words, k.relas...); !slices.Equal(got, k.want) {
			t.Errorf("%s: got %x, want %x", k.what, got, k.want)
		}
	}
}

// The lower part goes by the auipc's symbol, however far the addi or sw is from it.
func TestPairs(t *testing.T) {
	m := place.NewMemory()
	for i, w := range []uint32{0x00000517, 0x00000013, 0x00050513, 0x00B52023} {
		m.Store(code+uint32(4*i), 4, w)
	}
	const at = code - bias
	f := api.File{Symbols: []uint32{0, at, 0x5800}, Relas: []api.Rela{
		{At: at, Type: reloc.PcHi, Sym: 2, Add: 0xFFFFFFF8}, {At: at + 8, Type: reloc.PcLoI, Sym: 1}, {At: at + 12, Type: reloc.PcLoS, Sym: 1},
	}}
	if e := reloc.Apply(m, f, bias, whole()); e != api.OK {
		t.Errorf("error %d", e)
	}
	// 80001000 + 57F8 - 80002000 is 47F8 (base 16).
	for i, want := range []uint32{0x00004517, 0x00000013, 0x7F850513, 0x7EB52C23, 0} {
		if w, _ := m.Load(code+uint32(4*i), 4); w != want {
			t.Errorf("word %d is %08x, want %08x", i, w, want)
		}
	}
}

// What an instruction pair computes on the machine is the relocations' target
// (P13.2).
func TestPairsComputeTheTarget(t *testing.T) {
	r := rand.New(rand.NewSource(2))
	for i := range 3000 {
		target := r.Uint32()
		if i%3 == 0 {
			target = code + uint32(r.Intn(0x4000)) - 0x2000
		}
		at := code + 4*uint32(r.Intn(64))
		f := api.File{Symbols: []uint32{0, target - bias, at + 0x100 - bias}, Relas: []api.Rela{
			{At: at - bias, Type: reloc.Call, Sym: 1},
			{At: at + 0x100 - bias, Type: reloc.PcHi, Sym: 1},
			{At: at + 0x104 - bias, Type: reloc.PcLoI, Sym: 2},
			{At: at + 0x108 - bias, Type: reloc.PcLoS, Sym: 2},
			{At: at + 0x200 - bias, Type: reloc.Hi, Sym: 1},
			{At: at + 0x204 - bias, Type: reloc.LoI, Sym: 1},
			{At: at + 0x208 - bias, Type: reloc.LoS, Sym: 1},
			{At: at + 0x300 - bias, Type: reloc.CallPlt, Sym: 1},
		}}
		m, _ := filled(t)
		if e := reloc.Apply(m, f, bias, whole()); e != api.OK {
			t.Fatalf("error %d", e)
		}
		word := func(at uint32) uint32 {
			w, _ := m.Load(at, 4)
			return w
		}
		for what, got := range map[string]uint32{
			"Call":    at + inst.ImmU(word(at)) + inst.ImmI(word(at+4)),
			"PcLoI":   at + 0x100 + inst.ImmU(word(at+0x100)) + inst.ImmI(word(at+0x104)),
			"PcLoS":   at + 0x100 + inst.ImmU(word(at+0x100)) + inst.ImmS(word(at+0x108)),
			"LoI":     inst.ImmU(word(at+0x200)) + inst.ImmI(word(at+0x204)),
			"LoS":     inst.ImmU(word(at+0x200)) + inst.ImmS(word(at+0x208)),
			"CallPlt": at + 0x300 + inst.ImmU(word(at+0x300)) + inst.ImmI(word(at+0x304)),
		} {
			if got != target {
				t.Fatalf("%s at %x: the target is %x, want %x", what, at, got, target)
			}
		}
	}
}

// Every distance of a branch, and those around the ends of a jump's reach.
func TestRanges(t *testing.T) {
	m, _ := filled(t)
	near := func(kind int, v int32, reached bool, imm func(uint32) uint32) {
		t.Helper()
		old, _ := m.Load(code, 4)
		f := api.File{Relas: []api.Rela{{At: code - bias, Type: kind, Add: code + uint32(v)}}}
		e := reloc.Apply(m, f, bias, whole())
		w, _ := m.Load(code, 4)
		if reached && (e != api.OK || imm(w) != uint32(v)) {
			t.Errorf("type %d to %d: error %d, and the immediate is %d", kind, v, e, int32(imm(w)))
		}
		if !reached && (e != api.ErrRange || w != old) {
			t.Errorf("type %d to %d: error %d, and the word is %x after %x", kind, v, e, w, old)
		}
	}
	for v := int32(-10000); v <= 10000; v++ {
		near(reloc.Branch, v, v%2 == 0 && v >= -4096 && v <= 4094, inst.ImmB)
		near(reloc.Jal, v, v%2 == 0, inst.ImmJ)
	}
	for v := int32(0); v <= 64; v++ {
		near(reloc.Jal, -1048576+v, v%2 == 0, inst.ImmJ)
		near(reloc.Jal, 1048576-v, v%2 == 0 && v > 0, inst.ImmJ)
		near(reloc.Jal, -1048577-v, false, inst.ImmJ)
		near(reloc.Jal, 1048575+v, false, inst.ImmJ)
		for _, far := range []int32{math.MinInt32, math.MaxInt32 - 64, 1 << 21, -1 << 21, 1 << 24, 1 << 13, -1 << 13} {
			near(reloc.Branch, far+v, false, inst.ImmB)
			near(reloc.Jal, far+v, (far+v)%2 == 0 && far < 1<<20 && far > -1<<20, inst.ImmJ)
		}
	}
}

// Address arithmetic is modulo 2^32.
func TestWrapping(t *testing.T) {
	for _, b := range []uint32{0, 1, base, code, 0xFFFFFFFC, 0xFFFFFFFF, end + 5} {
		for _, target := range []uint32{0, 0xFFFFFFFF, code - 2, base, 0x7FFFFFFF, code + 0x7FE, code + 0x800} {
			for _, add := range []uint32{0, 1, 0xFFFFFFFF, 0x80000000, 0x12345678} {
				for _, kind := range types {
					f := api.File{Symbols: []uint32{0, target - add - b, code - b}, Relas: []api.Rela{
						{At: code - b, Type: kind, Sym: 1, Add: add},
						{At: code - b, Type: reloc.PcHi, Sym: 1, Add: add},
					}}
					switch kind {
					case reloc.Relative:
						f.Relas[0].Sym, f.Relas[0].Add = 0, target-b
					case reloc.PcLoI, reloc.PcLoS:
						f.Relas[0].Sym, f.Relas[0].Add = 2, 0
					}
					want := api.OK
					if d := int32(target - code); kind == reloc.Branch && (d < -4096 || d > 4094 || d%2 != 0) ||
						kind == reloc.Jal && (d < -1048576 || d > 1048574 || d%2 != 0) {
						want = api.ErrRange
					}
					expect(t, want, f, b, whole(), "wrapping")
				}
			}
		}
	}
}

// Number 0 and numbers that the file doesn't have stand for 0, not for the bias.
func TestSymbols(t *testing.T) {
	symbols := []uint32{0x1111, 0x2222, 0x3332} // whose distances are odd
	for _, k := range []struct {
		sym  int
		want uint32
	}{
		{0, 7}, {1, 0x2222 + bias + 7}, {2, 0x3332 + bias + 7}, {3, 7}, {4, 7}, {-1, 7}, {-2, 7}, {1000, 7},
		{math.MaxInt, 7}, {math.MinInt, 7}, {1<<32 + 1, 7}, {1 - 1<<32, 7}, {math.MaxInt32, 7}, {math.MinInt32, 7},
	} {
		m, _ := filled(t)
		f := api.File{Symbols: symbols, Relas: []api.Rela{{At: code - bias, Type: reloc.Word, Sym: k.sym, Add: 7}}}
		if e := reloc.Apply(m, f, bias, whole()); e != api.OK {
			t.Errorf("symbol %d: error %d", k.sym, e)
		}
		if w, _ := m.Load(code, 4); w != k.want {
			t.Errorf("symbol %d: got %x, want %x", k.sym, w, k.want)
		}
		for _, kind := range types {
			f.Relas[0].Type = kind
			want := api.OK
			switch kind {
			case reloc.Relative:
				if k.sym != 0 {
					want = api.ErrRel
				}
			case reloc.Branch, reloc.Jal:
				want = api.ErrRange
			case reloc.PcLoI, reloc.PcLoS:
				want = api.ErrRel
			}
			expect(t, want, f, bias, whole(), "a symbol's number")
		}
	}
	expect(t, api.OK, api.File{Relas: []api.Rela{{At: code - bias, Type: reloc.Word, Sym: 1, Add: 9}}}, bias, whole(), "no symbols")
}

func TestNilMemory(t *testing.T) {
	f := api.File{Relas: []api.Rela{{At: code - bias, Type: reloc.Word}}}
	for _, file := range []api.File{f, {}, {Relas: []api.Rela{{Type: 2}}}} {
		if e := reloc.Apply(nil, file, bias, whole()); e != api.ErrArg {
			t.Errorf("%+v: error %d", file, e)
		}
	}
}

func TestNoRelocations(t *testing.T) {
	expect(t, api.OK, api.File{}, bias, whole(), "nothing")
	expect(t, api.OK, api.File{Symbols: []uint32{0, 5}, Segments: []api.Segment{{Addr: 4, Bytes: []byte("abcd"), Size: 8}}}, bias, nil, "no spans")
}

// Each relocation works on what those before it left.
func TestOneAfterTheOther(t *testing.T) {
	const at = code - bias
	for _, k := range []struct {
		relas []api.Rela
		want  uint32
	}{
		{[]api.Rela{{At: at, Type: 1, Add: 0xABCDEFFF}, {At: at, Type: 26, Add: 0x12345000}}, 0x12345FFF},
		{[]api.Rela{{At: at, Type: 26, Add: 0x12345000}, {At: at, Type: 1, Add: 0xABCDEFFF}}, 0xABCDEFFF},
		{[]api.Rela{{At: at, Type: 1, Add: 0x11223344}, {At: at + 2, Type: 1, Add: 0x55667788}}, 0x77883344},
		{[]api.Rela{{At: at + 2, Type: 1, Add: 0x55667788}, {At: at, Type: 1, Add: 0x11223344}}, 0x11223344},
		{[]api.Rela{{At: at, Type: 1, Add: 0x11223344}, {At: at - 3, Type: 3, Add: 0xAB000000 - bias}}, 0x112233AB},
		{[]api.Rela{{At: at, Type: 1}, {At: at, Type: 26, Add: 0xABCDE000}, {At: at, Type: 27, Add: 0x123}, {At: at, Type: 28, Add: 0xFE1}}, 0xFE3DE080},
		{[]api.Rela{{At: at, Type: 1}, {At: at - 4, Type: 18, Add: code - 4 + 0x123}, {At: at, Type: 26, Add: 0x0FF000}}, 0x000FF000},
	} {
		m, _ := filled(t)
		f := api.File{Relas: k.relas}
		if e := reloc.Apply(m, f, bias, whole()); e != api.OK {
			t.Errorf("%+v: error %d", k.relas, e)
		}
		if w, _ := m.Load(code, 4); w != k.want {
			t.Errorf("%+v: got %08x, want %08x", k.relas, w, k.want)
		}
		expect(t, api.OK, f, bias, whole(), "one after the other")
	}
}

// A file may be relocated twice; how many relocations there are doesn't matter.
func TestManyRelocations(t *testing.T) {
	f := api.File{}
	for i := range 3000 {
		f.Symbols = append(f.Symbols, uint32(i*i))
		f.Relas = append(f.Relas, api.Rela{At: uint32(4 * i), Type: reloc.Word, Sym: i, Add: uint32(i)})
	}
	expect(t, api.OK, f, bias, whole(), "3000 relocations")
	f.Relas = append(f.Relas, f.Relas...)
	f.Relas[5999].Type = 0
	expect(t, api.ErrRel, f, bias, whole(), "6000 relocations, the last one invalid")
}

func TestArgumentsAreLeft(t *testing.T) {
	f := api.File{
		Entry:    4,
		Segments: []api.Segment{{Addr: code - bias, Bytes: []byte{1, 2, 3, 4}, Size: 16, Rights: 5}},
		Relas:    []api.Rela{{At: code - bias, Type: reloc.PcHi, Sym: 1, Add: 4}, {At: code - bias + 4, Type: reloc.PcLoI, Sym: 1}, {Type: 99}},
		Symbols:  []uint32{0, code - bias},
	}
	spans := []place.Span{{Start: code, Size: 16, Rights: 5}}
	same := api.File{Entry: f.Entry, Relas: slices.Clone(f.Relas), Symbols: slices.Clone(f.Symbols)}
	same.Segments = []api.Segment{{Addr: code - bias, Bytes: []byte{1, 2, 3, 4}, Size: 16, Rights: 5}}
	expect(t, api.ErrRel, f, bias, spans, "two and an invalid one")
	if !reflect.DeepEqual(f, same) || !slices.Equal(spans, []place.Span{{Start: code, Size: 16, Rights: 5}}) {
		t.Errorf("the arguments are now %+v and %+v", f, spans)
	}
}
