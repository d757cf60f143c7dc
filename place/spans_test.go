package place_test

import (
	"math"
	"math/rand"
	"reflect"
	"slices"
	"testing"

	"portico/api"
	"portico/place"
)

const all = api.Read | api.Write | api.Exec

// fileOf returns a file with a segment for each address and size.
func fileOf(rights int, numbers ...uint32) api.File {
	var f api.File
	for i := 0; i < len(numbers); i += 2 {
		f.Segments = append(f.Segments, api.Segment{Addr: numbers[i], Size: numbers[i+1], Rights: rights})
	}
	return f
}

// payloadOf returns a payload with a grant for each start and size.
func payloadOf(bias uint32, rights int, numbers ...uint32) api.Payload {
	p := api.Payload{Bias: bias}
	for i := 0; i < len(numbers); i += 2 {
		p.Grants = append(p.Grants, api.Grant{Start: numbers[i], Size: numbers[i+1], Rights: rights})
	}
	return p
}

// slowSpans does what the chapter says, with sums that can't overflow and rights
// bit by bit.
func slowSpans(f api.File, p api.Payload) ([]place.Span, api.Errno) {
	var l []place.Span
	for _, s := range f.Segments {
		start := int64(p.Bias) + int64(s.Addr)
		granted := slices.ContainsFunc(p.Grants, func(g api.Grant) bool {
			low, high := int64(g.Start), int64(g.Start)+int64(g.Size)
			return low <= start && start+int64(s.Size) <= high && hasAll(g.Rights, s.Rights)
		})
		if start+int64(s.Size) > 0xFFFFFFFF || !granted {
			return nil, api.ErrGrant
		}
		l = append(l, place.Span{Start: uint32(start), Size: s.Size, Rights: s.Rights})
	}
	return l, api.OK
}

func hasAll(rights, wanted int) bool {
	for bit := range 64 {
		if uint64(wanted)>>bit%2 == 1 && uint64(rights)>>bit%2 == 0 {
			return false
		}
	}
	return true
}

// expectSpans checks Spans against literal spans; none with an error.
func expectSpans(t *testing.T, want api.Errno, spans []place.Span, f api.File, p api.Payload, what string) {
	t.Helper()
	got, e := place.Spans(f, p)
	if e != want || !slices.Equal(got, spans) {
		t.Errorf("%s: got %+v, error %d; want %+v, error %d", what, got, e, spans, want)
	}
	if e != api.OK && got != nil {
		t.Errorf("%s: an empty slice that isn't nil, with error %d", what, e)
	}
	if slow, slowError := slowSpans(f, p); slowError != want || !slices.Equal(slow, spans) {
		t.Errorf("%s: the model says %+v, error %d", what, slow, slowError)
	}
}

// ordinary returns a file and a payload where it may be loaded.
func ordinary() (api.File, api.Payload) {
	f := api.File{Entry: 0x1000, Segments: []api.Segment{
		{Addr: 0x1000, Bytes: []byte("code"), Size: 0x20, Rights: api.Read | api.Exec},
		{Addr: 0x2000, Bytes: []byte("data"), Size: 0x40, Rights: api.Read | api.Write},
		{Addr: 0x3000, Bytes: []byte("text"), Size: 4, Rights: api.Read},
	}, Relas: []api.Rela{{At: 0x2000, Type: 1}}, Symbols: []uint32{1, 2}}
	p := api.Payload{Size: 100, Bias: 0x80003000, Calls: 255, Grants: []api.Grant{
		{Start: 0x80002000, Size: 0x1000, Rights: all},
		{Start: 0x80005000, Size: 0x1004, Rights: api.Read | api.Write},
		{Start: 0x80004000, Size: 0x1000, Rights: api.Read | api.Exec},
	}}
	return f, p
}

func ordinarySpans() []place.Span {
	return []place.Span{
		{Start: 0x80004000, Size: 0x20, Rights: api.Read | api.Exec},
		{Start: 0x80005000, Size: 0x40, Rights: api.Read | api.Write},
		{Start: 0x80006000, Size: 4, Rights: api.Read},
	}
}

func TestOrdinarySpans(t *testing.T) {
	f, p := ordinary()
	expectSpans(t, api.OK, ordinarySpans(), f, p, "three segments")
	slices.Reverse(f.Segments)
	want := ordinarySpans()
	slices.Reverse(want)
	expectSpans(t, api.OK, want, f, p, "in the other order")
	f.Segments[0].Bytes = make([]byte, 1000)
	expectSpans(t, api.OK, want, f, p, "more bytes than the size")
}

// Whichever segment isn't granted, there are no spans.
func TestOneSegmentIsNotGranted(t *testing.T) {
	for i := range 3 {
		for _, change := range []func(s *api.Segment){
			func(s *api.Segment) { s.Addr -= 0x4000 },
			func(s *api.Segment) { s.Addr += 0x1000 - s.Size + 8 },
			func(s *api.Segment) { s.Addr = 0x80000000 },
			func(s *api.Segment) { s.Size = 0x1008 },
			func(s *api.Segment) { s.Size = 0xFFFFFFFF },
			func(s *api.Segment) { s.Rights = api.Write | api.Exec },
		} {
			f, p := ordinary()
			change(&f.Segments[i])
			expectSpans(t, api.ErrGrant, nil, f, p, "one segment isn't granted")
		}
	}
}

func TestNoSegmentsAndNoGrants(t *testing.T) {
	expectSpans(t, api.OK, nil, api.File{}, api.Payload{}, "nothing")
	expectSpans(t, api.OK, nil, api.File{}, payloadOf(4, all, base, size), "no segments")
	expectSpans(t, api.ErrGrant, nil, fileOf(1, base, 4), api.Payload{}, "no grants")
	expectSpans(t, api.ErrGrant, nil, fileOf(0, base, 0), api.Payload{}, "no grants for no bytes")
}

// The numbers of segments and grants aren't limited here.
func TestManySegmentsAndGrants(t *testing.T) {
	var f api.File
	var p api.Payload
	var want []place.Span
	for i := range uint32(300) {
		f.Segments = append(f.Segments, api.Segment{Addr: 0x1000 + 16*i, Size: 16, Rights: 1})
		want = append(want, place.Span{Start: base + 0x1000 + 16*i, Size: 16, Rights: 1})
		p.Grants = append(p.Grants, api.Grant{Start: base + 0x1000 + 16*(299-i), Size: 16, Rights: 1})
	}
	p.Bias = base
	expectSpans(t, api.OK, want, f, p, "300 segments")
	p.Grants = p.Grants[:299]
	expectSpans(t, api.ErrGrant, nil, f, p, "299 grants for 300 segments")
}

// Every small range against every small grant, at both ends of the address space
// and in RAM.
func TestRangesAroundAGrant(t *testing.T) {
	for _, near := range []uint32{0, base, end - 4, 0xFFFFFFF0} {
		for i := range uint32(36) {
			p := payloadOf(near, 1, near+i/6, i%6)
			for j := range uint32(90) {
				f := fileOf(1, j/9, j%9)
				want, e := slowSpans(f, p)
				expectSpans(t, e, want, f, p, "a range around a grant")
			}
		}
	}
}

func TestExactGrant(t *testing.T) {
	p := payloadOf(0x80001000, 1, 0x80002000, 0x100)
	expectSpans(t, api.OK, []place.Span{{Start: 0x80002000, Size: 0x100, Rights: 1}}, fileOf(1, 0x1000, 0x100), p, "the whole grant")
	expectSpans(t, api.OK, []place.Span{{Start: 0x800020FF, Size: 1, Rights: 1}}, fileOf(1, 0x10FF, 1), p, "its last byte")
	expectSpans(t, api.ErrGrant, nil, fileOf(1, 0x0FFF, 0x100), p, "one byte before")
	expectSpans(t, api.ErrGrant, nil, fileOf(1, 0x1001, 0x100), p, "one byte behind")
	expectSpans(t, api.ErrGrant, nil, fileOf(1, 0x1000, 0x101), p, "one byte too many")
	expectSpans(t, api.ErrGrant, nil, fileOf(1, 0x0FFF, 1), p, "the byte before")
	expectSpans(t, api.ErrGrant, nil, fileOf(1, 0x1100, 1), p, "the byte behind")
}

// Two grants may contain a range and have its rights together; one must do so alone.
func TestSingleGrant(t *testing.T) {
	f := fileOf(api.Read|api.Write, 0, 16)
	side := payloadOf(base, api.Read|api.Write, base, 8, base+8, 8)
	expectSpans(t, api.ErrGrant, nil, f, side, "side by side")
	side.Grants[1].Start, side.Grants[1].Size = base+4, 12
	expectSpans(t, api.ErrGrant, nil, f, side, "overlapping")
	both := payloadOf(base, api.Read, base, 16, base, 16)
	both.Grants[1].Rights = api.Write
	expectSpans(t, api.ErrGrant, nil, f, both, "one right each")
	both.Grants[1].Rights = api.Write | api.Exec
	expectSpans(t, api.ErrGrant, nil, f, both, "as many rights")
	apart := payloadOf(base, all, base, 12, base, 16)
	apart.Grants[1].Rights = api.Read
	expectSpans(t, api.ErrGrant, nil, f, apart, "one has the range, the other one the rights")
	apart.Grants = append(apart.Grants, api.Grant{Start: base, Size: 16, Rights: api.Read | api.Write})
	expectSpans(t, api.OK, []place.Span{{Start: base, Size: 16, Rights: 3}}, f, apart, "a third one has both")
}

// Each right counts for itself, and no integer makes a difference to that.
func TestRights(t *testing.T) {
	others := []int{8, 9, 15, 16, 256, 263, 1 << 32, 1<<32 + 7, -1, -2, -8, math.MinInt, math.MinInt + 7, math.MaxInt}
	for _, granted := range append([]int{0, 1, 2, 3, 4, 5, 6, 7}, others...) {
		for _, wanted := range append([]int{0, 1, 2, 3, 4, 5, 6, 7}, others...) {
			want, spans := api.ErrGrant, []place.Span(nil)
			if hasAll(granted, wanted) {
				want, spans = api.OK, []place.Span{{Start: base, Size: 4, Rights: wanted}}
			}
			expectSpans(t, want, spans, fileOf(wanted, 0, 4), payloadOf(base, granted, base, 4), "rights")
		}
	}
}

// The sum of Bias, Addr and Size doesn't wrap around, whatever is granted.
func TestBeyondTheAddressSpace(t *testing.T) {
	everywhere := func(bias uint32) api.Payload {
		return payloadOf(bias, all, 0, greatest, 0x80000000, greatest, greatest, greatest)
	}
	for _, k := range []struct {
		bias, addr, size uint32
		want             api.Errno
	}{
		{0xFFFFFFF0, 0, 0xF, api.OK},
		{0xFFFFFFF0, 0, 0x10, api.ErrGrant},
		{0, 0xFFFFFFF0, 0xF, api.OK},
		{0, 0xFFFFFFF0, 0x10, api.ErrGrant},
		{0, 0, greatest, api.OK},
		{0, 1, greatest, api.ErrGrant},
		{1, 0, greatest, api.ErrGrant},
		{greatest, 0, 0, api.OK},
		{0, greatest, 0, api.OK},
		{greatest, 0, 1, api.ErrGrant},
		{greatest, 1, 0, api.ErrGrant},
		{greatest, 1, 4, api.ErrGrant},
		{0x80000000, 0x80000000, 0, api.ErrGrant},
		{0x80000000, 0x80000000, 0x100, api.ErrGrant},
		{0x80000000, 0x7FFFFFFF, 0, api.OK},
		{0x80001000, 0xFFFFFFF0, 0x10, api.ErrGrant},
		{0x80001000, 0, 0x80000000, api.ErrGrant},
		{0xFFFF0000, 0xFFFF0000, 0x20000, api.ErrGrant},
		{greatest, greatest, 1, api.ErrGrant},
		{greatest, greatest, 2, api.ErrGrant},
		{greatest, greatest, greatest, api.ErrGrant},
	} {
		var want []place.Span
		if k.want == api.OK {
			want = []place.Span{{Start: k.bias + k.addr, Size: k.size, Rights: 1}}
		}
		expectSpans(t, k.want, want, fileOf(1, k.addr, k.size), everywhere(k.bias), "the end of the address space")
	}
}

// A grant that isn't valid doesn't wrap around either.
func TestGrantBeyondTheAddressSpace(t *testing.T) {
	p := payloadOf(0, all, 0xFFFFFFF0, 0x100)
	expectSpans(t, api.ErrGrant, nil, fileOf(1, 0, 4), p, "before the wrapped end of a grant")
	expectSpans(t, api.OK, []place.Span{{Start: 0xFFFFFFF4, Size: 8, Rights: 1}}, fileOf(1, 0xFFFFFFF4, 8), p, "in the grant")
}

// copyOf returns a file and a payload that share nothing with f and p.
func copyOf(f api.File, p api.Payload) (api.File, api.Payload) {
	f.Segments = slices.Clone(f.Segments)
	for i := range f.Segments {
		f.Segments[i].Bytes = slices.Clone(f.Segments[i].Bytes)
	}
	f.Relas, f.Symbols = slices.Clone(f.Relas), slices.Clone(f.Symbols)
	p.Grants = slices.Clone(p.Grants)
	return f, p
}

func TestSpansLeavesItsArguments(t *testing.T) {
	f, p := ordinary()
	oldFile, oldPayload := copyOf(f, p)
	got, _ := place.Spans(f, p)
	again, _ := place.Spans(f, p)
	for i := range got {
		got[i] = place.Span{}
	}
	if !reflect.DeepEqual(f, oldFile) || !reflect.DeepEqual(p, oldPayload) {
		t.Errorf("the arguments are now %+v and %+v", f, p)
	}
	if !slices.Equal(again, ordinarySpans()) {
		t.Errorf("two calls returned the same memory")
	}
}

func TestRandomSpans(t *testing.T) {
	r := rand.New(rand.NewSource(3))
	granted := 0
	for range 30000 {
		p := api.Payload{Bias: base + uint32(r.Intn(8))}
		for range r.Intn(5) {
			p.Grants = append(p.Grants, api.Grant{Start: base + uint32(r.Intn(24)), Size: uint32(r.Intn(40)), Rights: r.Intn(8)})
		}
		var f api.File
		for range r.Intn(4) {
			f.Segments = append(f.Segments, api.Segment{Addr: uint32(r.Intn(24)), Size: uint32(r.Intn(12)), Rights: r.Intn(8) & r.Intn(8)})
		}
		want, e := slowSpans(f, p)
		expectSpans(t, e, want, f, p, "random")
		if e == api.OK && len(want) > 1 {
			granted++
		}
	}
	if granted < 500 {
		t.Errorf("only %d of the files with several segments are granted", granted)
	}
}
