package place_test

import (
	"bytes"
	"math"
	"math/rand"
	"reflect"
	"slices"
	"testing"

	"portico/api"
	"portico/place"
)

// A piece is a segment and where it is loaded.
type piece struct {
	at       uint32
	contents string
	size     uint32
}

// written returns the file and the spans of the pieces.
func written(pieces ...piece) (api.File, []place.Span) {
	var f api.File
	var spans []place.Span
	for _, p := range pieces {
		f.Segments = append(f.Segments, api.Segment{Bytes: []byte(p.contents), Size: p.size, Rights: 1})
		spans = append(spans, place.Span{Start: p.at, Size: p.size, Rights: 1})
	}
	return f, spans
}

// slowLoad does what the chapter says, byte by byte.
func slowLoad(m *model, f api.File, spans []place.Span) api.Errno {
	if len(f.Segments) != len(spans) {
		return api.ErrArg
	}
	for i, s := range f.Segments {
		if spans[i].Size != s.Size || len(s.Bytes) > int(s.Size) || !m.has(spans[i].Start, spans[i].Size) {
			return api.ErrBus
		}
	}
	for i, s := range f.Segments {
		for j := range int(s.Size) {
			x := byte(0)
			if j < len(s.Bytes) {
				x = s.Bytes[j]
			}
			m.b[int(spans[i].Start-base)+j] = x
		}
	}
	return api.OK
}

// expectLoad checks a Load's error and every byte of memory afterwards, from a
// memory without zeros.
func expectLoad(t *testing.T, want api.Errno, f api.File, spans []place.Span, what string) {
	t.Helper()
	m, slow := filled(t)
	if slowError := slowLoad(slow, f, spans); slowError != want {
		t.Errorf("%s: the model's error is %d, not %d", what, slowError, want)
	}
	if got := place.Load(m, f, spans); got != want {
		t.Errorf("%s: error %d, want %d", what, got, want)
	}
	mustHold(t, m, slow.b)
}

// expectPieces loads the pieces.
func expectPieces(t *testing.T, want api.Errno, what string, pieces ...piece) {
	t.Helper()
	f, spans := written(pieces...)
	expectLoad(t, want, f, spans, what)
}

func TestLoadFile(t *testing.T) {
	m, slow := filled(t)
	f, spans := written(piece{0x80001000, "code", 4}, piece{0x80002000, "data", 12}, piece{0x80001804, "", 8})
	if e := place.Load(m, f, spans); e != api.OK {
		t.Errorf("error %d", e)
	}
	copy(slow.b[0x1000:], "code")
	copy(slow.b[0x2000:], "data\x00\x00\x00\x00\x00\x00\x00\x00")
	copy(slow.b[0x1804:], "\x00\x00\x00\x00\x00\x00\x00\x00")
	mustHold(t, m, slow.b)
}

// What is in the file's segments besides bytes and sizes doesn't matter, nor where
// in RAM they lie.
func TestNoOtherCondition(t *testing.T) {
	f, spans := written(piece{base, "first", 7}, piece{base + 0x0FFF, "odd", 3}, piece{base + 0x3001, "\x00\x01", 5})
	expectLoad(t, api.OK, f, spans, "the monitor's own memory, and odd addresses")
	for i := range f.Segments {
		f.Segments[i].Addr = 0x1234567 * uint32(i+77)
		f.Segments[i].Rights = 7 - i
		spans[i].Rights = math.MinInt + i
	}
	f.Entry, f.Relas, f.Symbols = 99, make([]api.Rela, 100), make([]uint32, 100)
	expectLoad(t, api.OK, f, spans, "other rights and addresses")
}

// The segments are written one after the other, their zeros too.
func TestOverlappingSpans(t *testing.T) {
	expectPieces(t, api.OK, "the second one over the first", piece{base + 8, "firstfirst", 10}, piece{base + 12, "XY", 4})
	expectPieces(t, api.OK, "the first one's zeros under the second", piece{base + 8, "ab", 16}, piece{base + 12, "XY", 4})
	expectPieces(t, api.OK, "the second one around the first", piece{base + 12, "XY", 4}, piece{base + 8, "ab", 16})
	expectPieces(t, api.OK, "three in one place", piece{base, "abcdef", 6}, piece{base, "ghi", 4}, piece{base, "", 2})
}

func TestLoadAtTheEndsOfRam(t *testing.T) {
	whole := string(bytes.Repeat([]byte("whole"), size/5+1)[:size])
	expectPieces(t, api.OK, "all of RAM", piece{base, whole, size})
	expectPieces(t, api.OK, "all of RAM, with zeros", piece{base, whole[:100], size})
	expectPieces(t, api.OK, "zeros only", piece{base, "", size})
	expectPieces(t, api.OK, "the last bytes", piece{end - 4, "last", 4})
	expectPieces(t, api.OK, "the first byte", piece{base, "f", 1})
	expectPieces(t, api.OK, "no bytes", piece{base, "", 0}, piece{end, "", 0}, piece{base + 5, "", 0})
	for _, p := range []piece{
		{base - 1, "1234", 4}, {end - 3, "1234", 4}, {end - 3, "123", 4}, {end - 3, "", 4}, {end, "1", 1},
		{base - 1, "", 0}, {end + 1, "", 0}, {0, "", 0}, {0, "1234", 4}, {greatest, "12", 2}, {greatest - 3, "1234", 4},
		{base, "1", size + 1}, {base, whole, size + 1}, {base + 1, whole, size}, {base, "1", greatest}, {base + 2, "1", greatest},
		{base + 0x100, "1234", greatest - 0xFF}, {0, "1", greatest}, {base, "", 1 << 31}, {end, "", 1 << 31},
	} {
		good := piece{base + 0x1000, "good", 8}
		expectPieces(t, api.ErrBus, "outside RAM", p)
		expectPieces(t, api.ErrBus, "the first one outside RAM", p, good, good)
		expectPieces(t, api.ErrBus, "the second one outside RAM", good, p, good)
		expectPieces(t, api.ErrBus, "the last one outside RAM", good, good, p)
	}
}

// A span must have its segment's size, even if the bytes would fit.
func TestOtherSizes(t *testing.T) {
	for i := range 3 {
		for _, other := range []uint32{0, 1, 3, 7, 9, 16, 0x1000, size, 1<<31 + 8, greatest} {
			f, spans := written(piece{base + 16, "one", 8}, piece{base + 32, "two", 8}, piece{base + 48, "three", 8})
			spans[i].Size = other
			expectLoad(t, api.ErrBus, f, spans, "another size of a span")
			spans[i].Size = 8
			f.Segments[i].Size = other
			expectLoad(t, api.ErrBus, f, spans, "another size of a segment")
			spans[i].Size = 8
			f.Segments[i].Size = 8
			expectLoad(t, api.OK, f, spans, "the same size")
		}
	}
}

func TestMoreBytesThanSize(t *testing.T) {
	for i := range 3 {
		for n := range 20 {
			f, spans := written(piece{base + 16, "one", 8}, piece{base + 32, "two", 8}, piece{base + 48, "three", 8})
			f.Segments[i].Bytes = bytes.Repeat([]byte{0xAB}, n)
			want := api.OK
			if n > 8 {
				want = api.ErrBus
			}
			expectLoad(t, want, f, spans, "bytes")
		}
	}
	expectPieces(t, api.ErrBus, "a byte for no size", piece{base, "x", 0})
	expectPieces(t, api.ErrBus, "a byte more than RAM", piece{base, string(make([]byte, size+1)), size})
}

// The number of spans comes before all else.
func TestNumberOfSpans(t *testing.T) {
	good, bad := piece{base + 16, "good", 8}, piece{end, "bad", 2}
	for segments := range 4 {
		for spans := range 4 {
			for _, p := range []piece{good, bad} {
				f, _ := written(slices.Repeat([]piece{p}, segments)...)
				_, l := written(slices.Repeat([]piece{p}, spans)...)
				want := api.OK
				if segments != spans {
					want = api.ErrArg
				} else if p == bad && segments > 0 {
					want = api.ErrBus
				}
				expectLoad(t, want, f, l, "the number of spans")
			}
		}
	}
}

func TestLoadManySegments(t *testing.T) {
	var pieces []piece
	for i := range uint32(300) {
		pieces = append(pieces, piece{base + 64*i, string(rune('A' + i%26)), 5})
	}
	expectPieces(t, api.OK, "300 segments", pieces...)
	pieces[299].at = end
	expectPieces(t, api.ErrBus, "300 segments, the last one outside RAM", pieces...)
}

func TestLoadIntoNil(t *testing.T) {
	f, spans := written(piece{base, "abcd", 4})
	for _, k := range []struct {
		f     api.File
		spans []place.Span
		want  api.Errno
	}{
		{f, spans, api.ErrBus},
		{f, nil, api.ErrArg},
		{api.File{}, spans, api.ErrArg},
		{api.File{}, nil, api.OK},
	} {
		if e := place.Load(nil, k.f, k.spans); e != k.want {
			t.Errorf("%d segments and %d spans: error %d", len(k.f.Segments), len(k.spans), e)
		}
	}
	f, spans = written(piece{base, "", 0})
	if e := place.Load(nil, f, spans); e != api.ErrBus {
		t.Errorf("a segment of no bytes: error %d", e)
	}
}

// Neither the file nor the spans are modified, not even behind the bytes' length,
// and what becomes of them later doesn't matter.
func TestLoadLeavesAndKeepsNoArgument(t *testing.T) {
	m, slow := filled(t)
	memory := []byte("contents and more")
	f := api.File{Segments: []api.Segment{{Addr: 4, Bytes: memory[:8], Size: 12, Rights: 3}}}
	spans := []place.Span{{Start: base + 0x1000, Size: 12, Rights: 3}}
	oldFile, _ := copyOf(f, api.Payload{})
	oldSpans := slices.Clone(spans)
	slowLoad(slow, f, spans)
	if e := place.Load(m, f, spans); e != api.OK {
		t.Fatalf("error %d", e)
	}
	if !reflect.DeepEqual(f, oldFile) || !slices.Equal(spans, oldSpans) || string(memory) != "contents and more" {
		t.Errorf("the arguments are now %+v and %+v", f, spans)
	}
	clear(memory)
	mustHold(t, m, slow.b)
	copy(memory, "contents")
	m.Store(base+0x1000, 4, 0)
	if string(memory[:8]) != "contents" {
		t.Errorf("a Store changed the file: %q", memory[:8])
	}
}

// What Spans returns can be loaded, if the grants lie in RAM.
func TestSpansThenLoad(t *testing.T) {
	f, p := ordinary()
	spans, e := place.Spans(f, p)
	if e != api.OK {
		t.Fatalf("Spans: error %d", e)
	}
	m, slow := filled(t)
	if e := place.Load(m, f, spans); e != api.OK {
		t.Fatalf("Load: error %d", e)
	}
	clear(slow.b[0x4000:0x4020])
	clear(slow.b[0x5000:0x5040])
	copy(slow.b[0x4000:], "code")
	copy(slow.b[0x5000:], "data")
	copy(slow.b[0x6000:], "text")
	mustHold(t, m, slow.b)
}

func TestRandomLoads(t *testing.T) {
	r := rand.New(rand.NewSource(4))
	m, slow := filled(t)
	counts := map[api.Errno]int{}
	for range 3000 {
		var f api.File
		var spans []place.Span
		for range r.Intn(5) {
			n := uint32(r.Intn(60))
			b := make([]byte, r.Intn(int(n)+1))
			r.Read(b)
			f.Segments = append(f.Segments, api.Segment{Bytes: b, Size: n})
			spans = append(spans, place.Span{Start: randomAddress(r), Size: n})
		}
		if len(spans) > 0 && r.Intn(20) == 0 {
			spans[r.Intn(len(spans))].Size++
		}
		if r.Intn(20) == 0 {
			spans = append(spans, place.Span{Start: base})
		}
		want := slowLoad(slow, f, spans)
		if got := place.Load(m, f, spans); got != want {
			t.Fatalf("%+v at %+v: error %d, want %d", f, spans, got, want)
		}
		counts[want]++
		mustHold(t, m, slow.b)
	}
	for _, e := range []api.Errno{api.OK, api.ErrArg, api.ErrBus} {
		if counts[e] < 50 {
			t.Errorf("error %d was met only %d times", e, counts[e])
		}
	}
}
