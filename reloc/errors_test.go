package reloc_test

import (
	"math"
	"math/rand"
	"testing"

	"portico/api"
	"portico/place"
	"portico/reloc"
)

// near returns a relocation of a type at an address whose value is in range, in a
// file that has a PcHi relocation with an address of its own (the symbol 1).
func near(kind int, at uint32) api.File {
	f := api.File{Symbols: []uint32{0, end - 16 - bias}, Relas: []api.Rela{
		{At: at - bias, Type: kind, Add: at + 8},
		{At: end - 16 - bias, Type: reloc.PcHi},
	}}
	if kind == reloc.PcLoI || kind == reloc.PcLoS {
		f.Relas[0].Sym, f.Relas[0].Add = 1, 0
	}
	return f
}

// width returns how many bytes a type changes.
func width(kind int) uint32 {
	if kind == reloc.Call || kind == reloc.CallPlt {
		return 8
	}
	return 4
}

// pairSpan is where near has its PcHi relocation.
var pairSpan = place.Span{Start: end - 16, Size: 4}

func TestTypes(t *testing.T) {
	valid := map[int]bool{}
	for _, kind := range types {
		valid[kind] = true
	}
	kinds := []int{math.MaxInt, math.MinInt, 1<<32 + 1, 1<<32 + 23, 1 - 1<<32, math.MaxInt32, math.MinInt32}
	for kind := -30; kind <= 300; kind++ {
		kinds = append(kinds, kind)
	}
	for _, kind := range kinds {
		want := api.ErrRel
		if valid[kind] {
			want = api.OK
		}
		expect(t, want, near(kind, code), bias, whole(), "a type")
	}
}

// A relocation's address must be a multiple of 4 but for Word and Relative.
func TestAlignment(t *testing.T) {
	for _, kind := range types {
		for i := range uint32(8) {
			want := api.OK
			if i%4 != 0 && kind != reloc.Word && kind != reloc.Relative {
				want = api.ErrRel
			}
			expect(t, want, near(kind, code+i), bias, whole(), "an address")
			// It is the sum that counts, not its terms.
			f := near(kind, code+i)
			for j := range f.Relas {
				f.Relas[j].At -= i + 1
			}
			for j := range f.Symbols {
				f.Symbols[j] -= i + 1
			}
			expect(t, want, f, bias+i+1, whole(), "an address with another bias")
		}
	}
}

// Relative may have no symbol, not even one that the file doesn't have.
func TestRelativeWithSymbol(t *testing.T) {
	for _, sym := range []int{1, 2, 3, -1, math.MaxInt, math.MinInt, 1 << 32} {
		f := near(reloc.Relative, code)
		f.Relas[0].Sym = sym
		expect(t, api.ErrRel, f, bias, whole(), "Relative")
		f.Relas[0].Type = reloc.Word
		expect(t, api.OK, f, bias, whole(), "Word")
	}
}

// All bytes that are changed must lie in one span.
func TestSpans(t *testing.T) {
	for _, kind := range types {
		n := width(kind)
		for start := uint32(code - 12); start <= code+12; start++ {
			for length := range uint32(24) {
				want := api.ErrRel
				if start <= code && start+length >= code+n {
					want = api.OK
				}
				s := place.Span{Start: start, Size: length}
				expectOne(t, want, kind, s)
				expectOne(t, want, kind, place.Span{}, s, s)
			}
		}
		// Two spans that touch aren't one.
		for cut := uint32(1); cut < n; cut++ {
			expectOne(t, api.ErrRel, kind, place.Span{Start: code - 16, Size: 16 + cut}, place.Span{Start: code + cut, Size: 16})
			expectOne(t, api.ErrRel, kind, place.Span{Start: code + cut, Size: 16}, place.Span{Start: code - 16, Size: 16 + cut})
			expectOne(t, api.OK, kind, place.Span{Start: code - 16, Size: 16 + cut}, place.Span{Start: code, Size: 16})
		}
		expectOne(t, api.ErrRel, kind)
	}
}

// expectOne applies one relocation at code to memory. It compares only what lies
// around it, to be fast.
func expectOne(t *testing.T, want api.Errno, kind int, spans ...place.Span) {
	t.Helper()
	f := near(kind, code)
	spans = append(spans, pairSpan)
	m := place.NewMemory()
	slow := model{ram: make([]byte, size), file: f, bias: bias, spans: spans}
	if e := slow.applyAll(); e != want {
		t.Fatalf("type %d, spans %+v: the model's error is %d, not %d", kind, spans, e, want)
	}
	if e := reloc.Apply(m, f, bias, spans); e != want {
		t.Fatalf("type %d, spans %+v: error %d, want %d", kind, spans, e, want)
	}
	got, _ := m.Get(code-32, 64)
	if string(got) != string(slow.ram[code-32-base:][:64]) {
		t.Fatalf("type %d, spans %+v: memory is %x, want %x", kind, spans, got, slow.ram[code-32-base:][:64])
	}
}

// A span's rights don't matter, nor whether there are as many as segments.
func TestRightsDoNotMatter(t *testing.T) {
	for _, rights := range []int{0, 1, 2, 4, 5, 7, -1, math.MaxInt} {
		for _, kind := range types {
			expectOne(t, api.OK, kind, place.Span{Start: code, Size: 8, Rights: rights})
		}
	}
}

// Memory's borders, with spans that reach beyond them.
func TestOutsideRam(t *testing.T) {
	everywhere := []place.Span{{Start: 0, Size: math.MaxUint32}, {Start: 0xFFFFFF00, Size: 0x100}}
	for _, kind := range types {
		for _, at := range []uint32{0, 4, base - 8, base - 4, end, end + 4, 0xFFFFFF00, 0xFFFFFFF8, 0x7FFF0000, end + size} {
			expect(t, api.ErrBus, near(kind, at), bias, everywhere, "outside RAM")
		}
		expect(t, api.OK, near(kind, base), bias, everywhere, "the first word")
		expect(t, api.OK, near(kind, end-8), bias, everywhere, "the last two words")
		if width(kind) == 4 {
			expect(t, api.OK, near(kind, end-4), bias, everywhere, "the last word")
			expect(t, api.ErrBus, near(kind, 0xFFFFFFFC), bias, everywhere, "the last word of all")
		} else {
			expect(t, api.ErrRel, near(kind, 0xFFFFFFFC), bias, everywhere, "bytes that go beyond 2^32")
		}
	}
	for _, kind := range []int{reloc.Word, reloc.Relative} {
		for i := uint32(1); i < 4; i++ {
			expect(t, api.ErrBus, near(kind, base-i), bias, everywhere, "across RAM's start")
			expect(t, api.ErrBus, near(kind, end-i), bias, everywhere, "across RAM's end")
			expect(t, api.OK, near(kind, end-4-i), bias, everywhere, "near RAM's end")
			expect(t, api.ErrRel, near(kind, -i), bias, everywhere, "bytes that go beyond 2^32")
		}
	}
	// A call whose second word isn't in RAM: nothing is changed.
	m, ram := filled(t)
	f := near(reloc.Call, end-4)
	if e := reloc.Apply(m, f, bias, everywhere); e != api.ErrBus {
		t.Errorf("a call at RAM's end: error %d", e)
	}
	mustHold(t, m, ram, "a call at RAM's end")
}

// An invalid relocation comes before memory's borders, and these before the value.
func TestOrderOfErrors(t *testing.T) {
	outside := []place.Span{{Start: end, Size: 64}}
	for _, k := range []struct {
		what  string
		want  api.Errno
		rela  api.Rela
		spans []place.Span
	}{
		{"invalid, outside RAM, out of range", api.ErrRel, api.Rela{At: end + 2 - bias, Type: reloc.Branch}, outside},
		{"no such type outside RAM", api.ErrRel, api.Rela{At: end - bias, Type: 2}, outside},
		{"in no span, outside RAM", api.ErrRel, api.Rela{At: end - bias, Type: reloc.Jal}, whole()},
		{"in no span, out of range", api.ErrRel, api.Rela{At: code - bias, Type: reloc.Jal}, outside},
		{"not aligned, out of range", api.ErrRel, api.Rela{At: code + 2 - bias, Type: reloc.Jal}, whole()},
		{"outside RAM, out of range", api.ErrBus, api.Rela{At: end - bias, Type: reloc.Branch}, outside},
		{"outside RAM, out of range", api.ErrBus, api.Rela{At: end - bias, Type: reloc.Jal}, outside},
		{"outside RAM, odd distance", api.ErrBus, api.Rela{At: end - bias, Type: reloc.Jal, Add: end + 1}, outside},
		{"outside RAM, without a pair", api.ErrBus, api.Rela{At: end - bias, Type: reloc.PcLoI}, outside},
		{"outside RAM, with an addend", api.ErrBus, api.Rela{At: end - bias, Type: reloc.PcLoS, Add: 4}, outside},
		{"Relative with a symbol outside RAM", api.ErrRel, api.Rela{At: end - bias, Type: reloc.Relative, Sym: 1}, outside},
	} {
		expect(t, k.want, api.File{Relas: []api.Rela{k.rela}}, bias, k.spans, k.what)
	}
}

func TestPairErrors(t *testing.T) {
	const at = code - bias
	symbols := []uint32{0, at, at + 16}
	hi := api.Rela{At: at, Type: reloc.PcHi, Sym: 2, Add: 0x12345678}
	for _, kind := range []int{reloc.PcLoI, reloc.PcLoS} {
		lo := api.Rela{At: at + 4, Type: kind, Sym: 1}
		other := func(change func(*api.Rela)) api.Rela {
			r := lo
			change(&r)
			return r
		}
		for _, k := range []struct {
			what  string
			want  api.Errno
			relas []api.Rela
		}{
			{"a pair", api.OK, []api.Rela{hi, lo}},
			{"the upper part last", api.OK, []api.Rela{lo, hi}},
			{"two lower parts", api.OK, []api.Rela{hi, lo, other(func(r *api.Rela) { r.At += 8 })}},
			{"the upper part's own word", api.OK, []api.Rela{hi, other(func(r *api.Rela) { r.At -= 4 })}},
			{"no upper part", api.ErrRel, []api.Rela{lo}},
			{"an addend", api.ErrRel, []api.Rela{hi, other(func(r *api.Rela) { r.Add = 4 })}},
			{"an addend that leads to the upper part", api.ErrRel, []api.Rela{hi, other(func(r *api.Rela) { r.Sym, r.Add = 2, 0xFFFFFFF0 })}},
			{"an addend of the whole address", api.ErrRel, []api.Rela{hi, other(func(r *api.Rela) { r.Sym, r.Add = 0, code })}},
			{"the symbol of the target", api.ErrRel, []api.Rela{hi, other(func(r *api.Rela) { r.Sym = 2 })}},
			{"no symbol", api.ErrRel, []api.Rela{hi, other(func(r *api.Rela) { r.Sym = 0 })}},
			{"a number that has no symbol", api.ErrRel, []api.Rela{hi, other(func(r *api.Rela) { r.Sym = 3 })}},
			{"a Hi", api.ErrRel, []api.Rela{{At: at, Type: reloc.Hi, Sym: 2}, lo}},
			{"a Call", api.ErrRel, []api.Rela{{At: at, Type: reloc.Call, Sym: 2}, lo}},
			{"a Word", api.ErrRel, []api.Rela{{At: at, Type: reloc.Word, Sym: 2}, lo}},
			{"another lower part", api.ErrRel, []api.Rela{hi, lo, {At: at + 8, Type: kind, Sym: 2}}},
			{"an upper part after an invalid relocation", api.ErrRel, []api.Rela{lo, {}, hi}},
			{"others around", api.OK, []api.Rela{{At: at + 32, Type: reloc.PcHi, Sym: 1}, {At: at, Type: reloc.Hi}, hi, lo}},
		} {
			expect(t, k.want, api.File{Symbols: symbols, Relas: k.relas}, bias, whole(), k.what)
		}
	}
}

// Of two upper parts at one address the first counts, even for a lower part
// between them and after them.
func TestFirstUpperPart(t *testing.T) {
	const at = code - bias
	first := api.Rela{At: at, Type: reloc.PcHi, Add: code + 0x123}
	second := api.Rela{At: at, Type: reloc.PcHi, Add: code + 0x456}
	lo := api.Rela{At: at + 4, Type: reloc.PcLoI, Sym: 1}
	for i, relas := range [][]api.Rela{{first, second, lo}, {first, lo, second}, {lo, first, second}, {first, second, second, lo}} {
		m := place.NewMemory()
		f := api.File{Symbols: []uint32{0, at}, Relas: relas}
		if e := reloc.Apply(m, f, bias, whole()); e != api.OK {
			t.Errorf("order %d: error %d", i, e)
		}
		if w, _ := m.Load(code+4, 4); w != 0x12300000 {
			t.Errorf("order %d: got %08x", i, w)
		}
	}
}

// A lower part goes by its upper part's numbers, even if that one turns out to be
// invalid later.
func TestInvalidUpperPart(t *testing.T) {
	const at = code - bias
	f := api.File{Symbols: []uint32{0, at + 2}, Relas: []api.Rela{
		{At: at + 4, Type: reloc.PcLoI, Sym: 1}, {At: at + 2, Type: reloc.PcHi, Add: code + 0x125},
	}}
	expect(t, api.ErrRel, f, bias, whole(), "not aligned")
	m := place.NewMemory()
	reloc.Apply(m, f, bias, whole())
	if w, _ := m.Load(code+4, 4); w != 0x12300000 {
		t.Errorf("got %08x", w)
	}
}

// What comes before a failing relocation is done, and nothing after it.
func TestStopsAtTheFirstError(t *testing.T) {
	for _, bad := range []struct {
		want api.Errno
		rela api.Rela
	}{
		{api.ErrRel, api.Rela{At: 0x4000, Type: 2}},
		{api.ErrRel, api.Rela{At: end - bias, Type: reloc.Word}},
		{api.ErrBus, api.Rela{At: end + 0x1000 - bias, Type: reloc.Word}},
		{api.ErrRange, api.Rela{At: 0x4000, Type: reloc.Branch}},
		{api.ErrRange, api.Rela{At: 0x4000, Type: reloc.Jal, Add: 0x4001 + bias}},
		{api.ErrRel, api.Rela{At: 0x4000, Type: reloc.PcLoI, Add: 4}},
		{api.ErrRel, api.Rela{At: 0x4000, Type: reloc.PcLoS}},
	} {
		spans := append(whole(), place.Span{Start: end + 0x1000, Size: 4})
		for i := range 5 {
			f := api.File{}
			for j := range uint32(4) {
				f.Relas = append(f.Relas, api.Rela{At: 0x100 * j, Type: reloc.Word, Add: 0x1010101 * (j + 1)})
			}
			f.Relas = append(f.Relas[:i:i], append([]api.Rela{bad.rela}, f.Relas[i:]...)...)
			expect(t, bad.want, f, bias, spans, "an error among others")
			m := place.NewMemory()
			reloc.Apply(m, f, bias, spans)
			for j := range uint32(4) {
				w, _ := m.Load(bias+0x100*j, 4)
				if done := w == 0x1010101*(j+1); done != (int(j) < i) {
					t.Errorf("error %d of relocation %d: word %d is %x", bad.want, i, j, w)
				}
			}
		}
	}
}

func TestRandomFiles(t *testing.T) {
	r := rand.New(rand.NewSource(3))
	counts := map[api.Errno]int{}
	m, ram := filled(t)
	for range 20000 {
		b := uint32(bias)
		if r.Intn(4) == 0 {
			b = r.Uint32()
		}
		f, spans := randomFile(r, b)
		slow := model{ram: ram, file: f, bias: int64(b), spans: spans}
		want := slow.applyAll()
		if got := reloc.Apply(m, f, b, spans); got != want {
			t.Fatalf("%+v at %x in %+v: error %d, want %d", f, b, spans, got, want)
		}
		counts[want]++
		mustHold(t, m, ram, "a random file")
	}
	for _, e := range []api.Errno{api.OK, api.ErrRel, api.ErrRange, api.ErrBus} {
		if counts[e] < 500 {
			t.Errorf("error %d was met only %d times", e, counts[e])
		}
	}
}

// randomFile returns relocations in a few words, so that they often have bytes in
// common, and spans around them.
func randomFile(r *rand.Rand, b uint32) (api.File, []place.Span) {
	near := func() uint32 { return code + uint32(4*r.Intn(12)) }
	f := api.File{Symbols: []uint32{r.Uint32()}}
	for range r.Intn(5) {
		f.Symbols = append(f.Symbols, near()-b)
	}
	if r.Intn(4) == 0 {
		f.Symbols = append(f.Symbols, r.Uint32())
	}
	for range r.Intn(7) {
		x := api.Rela{At: near() - b, Type: types[r.Intn(len(types))], Sym: r.Intn(len(f.Symbols))}
		switch r.Intn(6) {
		case 0:
			x.Add = uint32(r.Intn(0x4000)) - 0x2000
		case 1:
			x.Add = uint32(2*r.Intn(8)) - 8
		}
		if x.Type == reloc.Relative {
			x.Sym = 0
		}
		switch r.Intn(80) {
		case 0:
			x.Type = r.Intn(32)
		case 1:
			x.At++
		case 2:
			x.Sym = r.Intn(9) - 2
		case 3:
			x.At = end - b
		}
		f.Relas = append(f.Relas, x)
	}
	spans := []place.Span{{Start: code - 8, Size: 72}, {Start: end, Size: 16}}
	if r.Intn(10) == 0 {
		spans[0] = place.Span{Start: near(), Size: uint32(r.Intn(48))}
	}
	return f, spans
}
