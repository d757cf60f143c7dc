package manifest_test

import (
	"math"
	"math/rand"
	"reflect"
	"testing"

	"portico/api"
	"portico/manifest"
)

const (
	first    = 0x80001000 // the first address that may be granted
	ramEnd   = 0x80010000
	allBytes = ramEnd - first
)

// grants returns one grant of each start, size and rights.
func grants(numbers ...uint32) []api.Grant {
	var l []api.Grant
	for i := 0; i < len(numbers); i += 3 {
		l = append(l, api.Grant{Start: numbers[i], Size: numbers[i+1], Rights: int(numbers[i+2])})
	}
	return l
}

// twoPayloads returns a valid manifest. The grants of one payload are behind the
// other's.
func twoPayloads() api.Manifest {
	return api.Manifest{Counter: 0x04030201, Key: 5, Payloads: []api.Payload{
		{Digest: someDigest(1), Size: 0x1234, Bias: 0x80004000, Calls: 0xA5,
			Grants: grants(0x80004000, 0x1000, 5, 0x80005000, 0x800, 3)},
		{Digest: someDigest(2), Size: 0x20, Bias: 0xFFFFFFFC, Calls: 1,
			Grants: grants(0x80001000, 0x3000, 4)},
	}}
}

func someDigest(seed byte) (d [32]byte) {
	for i := range d {
		d[i] = seed + 7*byte(i)
	}
	return d
}

// fullManifest returns a valid manifest with as many payloads and grants as can be.
func fullManifest() api.Manifest {
	m := api.Manifest{Counter: math.MaxUint32, Key: 255}
	rights := []int{1, 2, 3, 4, 5}
	for i := range 4 {
		p := api.Payload{Digest: someDigest(byte(i)), Size: 32768, Bias: 4 * uint32(i), Calls: 255}
		for j := range 4 {
			start := uint32(first + 0x400*(4*i+j))
			p.Grants = append(p.Grants, api.Grant{Start: start, Size: 0x400, Rights: rights[(i+j)%5]})
		}
		m.Payloads = append(m.Payloads, p)
	}
	return m
}

// withGrants returns a manifest with a payload for each list of grants.
func withGrants(lists ...[]api.Grant) api.Manifest {
	var m api.Manifest
	for _, l := range lists {
		m.Payloads = append(m.Payloads, api.Payload{Grants: l})
	}
	return m
}

// copyOf returns a manifest that shares nothing with m.
func copyOf(m api.Manifest) api.Manifest {
	payloads := append([]api.Payload(nil), m.Payloads...)
	for i := range payloads {
		payloads[i].Grants = append([]api.Grant(nil), payloads[i].Grants...)
	}
	m.Payloads = payloads
	return m
}

// expectRight checks what Right says of m, and with it what Encode and Decode do.
func expectRight(t *testing.T, want api.Errno, m api.Manifest, what string) {
	t.Helper()
	if got := manifest.Right(m); got != want {
		t.Errorf("%s: Right is %d, want %d: %+v", what, got, want, m)
	}
	b := manifest.Encode(m)
	if (len(b) > 0) != (want == api.OK) {
		t.Errorf("%s: Encode returns %d bytes, and Right should be %d: %+v", what, len(b), want, m)
	}
	if !canBeWritten(m) {
		return
	}
	back, e := manifest.Decode(written(m))
	if e != want {
		t.Errorf("%s: Decode's error is %d, want %d: %+v", what, e, want, m)
	}
	if want == api.OK && !reflect.DeepEqual(back, m) || want != api.OK && !reflect.DeepEqual(back, api.Manifest{}) {
		t.Errorf("%s: Decode returns %+v for %+v", what, back, m)
	}
}

func TestRightManifests(t *testing.T) {
	expectRight(t, api.OK, twoPayloads(), "two payloads")
	expectRight(t, api.OK, fullManifest(), "a full manifest")
	expectRight(t, api.OK, withGrants(grants(0x80001000, 4096, 5, 0x80002000, 4096, 3)), "the chapter's example")
	expectRight(t, api.OK, withGrants(grants(first, 4, 1)), "least")
	expectRight(t, api.ErrForm, api.Manifest{}, "nothing")
}

func TestKeyNumber(t *testing.T) {
	for key, want := range map[int]api.Errno{
		0: api.OK, 1: api.OK, 127: api.OK, 128: api.OK, 254: api.OK, 255: api.OK,
		-1: api.ErrForm, 256: api.ErrForm, 257: api.ErrForm, -255: api.ErrForm, -256: api.ErrForm,
		1 << 32: api.ErrForm, math.MinInt: api.ErrForm, math.MaxInt: api.ErrForm,
	} {
		m := twoPayloads()
		m.Key = key
		expectRight(t, want, m, "Key")
	}
}

func TestCounter(t *testing.T) {
	for _, counter := range []uint32{0, 1, 255, 256, 1 << 31, math.MaxUint32} {
		m := twoPayloads()
		m.Counter = counter
		expectRight(t, api.OK, m, "Counter")
	}
}

func TestNumberOfPayloads(t *testing.T) {
	for n := range 300 {
		want := api.ErrForm
		if n >= 1 && n <= 4 {
			want = api.OK
		}
		var lists [][]api.Grant
		for i := range n {
			lists = append(lists, grants(first+uint32(4*i), 4, 1))
		}
		expectRight(t, want, withGrants(lists...), "the number of payloads")
	}
}

func TestNumberOfGrants(t *testing.T) {
	for n := range 300 {
		want := api.ErrForm
		if n >= 1 && n <= 4 {
			want = api.OK
		}
		var l []api.Grant
		for i := range n {
			l = append(l, grants(first+8+uint32(4*i), 4, 1)...)
		}
		expectRight(t, want, withGrants(l), "the grants of the only payload")
		expectRight(t, want, withGrants(grants(first, 4, 1), l), "the grants of the second payload")
		expectRight(t, want, withGrants(l, grants(first, 4, 1)), "the grants of the first payload")
	}
}

func TestCalls(t *testing.T) {
	for calls, want := range map[int]api.Errno{
		0: api.OK, 1: api.OK, 128: api.OK, 255: api.OK,
		-1: api.ErrForm, 256: api.ErrForm, 1 << 32: api.ErrForm, math.MinInt: api.ErrForm, math.MaxInt: api.ErrForm,
	} {
		for i := range 2 {
			m := twoPayloads()
			m.Payloads[i].Calls = calls
			expectRight(t, want, m, "Calls")
		}
	}
}

func TestSize(t *testing.T) {
	for size, want := range map[uint32]api.Errno{
		0: api.OK, 1: api.OK, 2: api.OK, 3: api.OK, 32767: api.OK, 32768: api.OK,
		32769: api.ErrForm, 65536: api.ErrForm, 1 << 31: api.ErrForm, math.MaxUint32: api.ErrForm,
	} {
		for i := range 2 {
			m := twoPayloads()
			m.Payloads[i].Size = size
			expectRight(t, want, m, "Size")
		}
	}
}

func TestBias(t *testing.T) {
	for _, near := range []uint32{4, 0x1000, 0x7FFFFFFC, 0x80000000, 0xFFFFFFF8} {
		for bias := near - 4; bias != near+5; bias++ {
			want := api.ErrForm
			if bias&3 == 0 {
				want = api.OK
			}
			for i := range 2 {
				m := twoPayloads()
				m.Payloads[i].Bias = bias
				expectRight(t, want, m, "Bias")
			}
		}
	}
}

func TestRights(t *testing.T) {
	valid := map[int]bool{1: true, 2: true, 3: true, 4: true, 5: true}
	numbers := []int{math.MinInt, math.MinInt + 1, math.MaxInt, 1<<32 + 1, -1<<32 + 1, 1<<31 + 1, -1<<31 + 1, 257}
	for n := -20; n <= 20; n++ {
		numbers = append(numbers, n)
	}
	for _, n := range numbers {
		want := api.ErrGrant
		if valid[n] {
			want = api.OK
		}
		m := twoPayloads()
		m.Payloads[0].Grants[1].Rights = n
		if n >= 0 && n <= 7 {
			expectRight(t, want, m, "Rights")
		} else if got := manifest.Right(m); got != want || len(manifest.Encode(m)) > 0 {
			t.Errorf("Rights %d: Right is %d, and Encode returns %d bytes", n, got, len(manifest.Encode(m)))
		}
	}
}

func TestPlaceOfGrant(t *testing.T) {
	for _, k := range []struct {
		start, size uint32
		want        api.Errno
	}{
		{first, 4, api.OK},
		{first, allBytes, api.OK},
		{ramEnd - 4, 4, api.OK},
		{first + 4, allBytes - 4, api.OK},
		{first - 4, 4, api.ErrGrant},
		{first - 4, 8, api.ErrGrant},
		{first - 4, allBytes + 4, api.ErrGrant},
		{first, allBytes + 4, api.ErrGrant},
		{first + 4, allBytes, api.ErrGrant},
		{ramEnd - 4, 8, api.ErrGrant},
		{ramEnd, 4, api.ErrGrant},
		{0x80000000, 4, api.ErrGrant},
		{0x80000000, 0x10000, api.ErrGrant},
		{0x80000000, 0x1000, api.ErrGrant},
		{0, 4, api.ErrGrant},
		{0x1000, 4, api.ErrGrant},
		{0xFFFFFFFC, 4, api.ErrGrant},
		{0, 0xFFFFFFFC, api.ErrGrant},
		// The sum of address and size wraps around.
		{first, 0xFFFFFFFC, api.ErrGrant},
		{first, 0x80000000, api.ErrGrant},
		{ramEnd - 4, 0x80000000, api.ErrGrant},
		{first + 0x100, 0xFFFFFF00, api.ErrGrant},
		{first + 0x100, 1<<32 - first, api.ErrGrant},
	} {
		for _, rights := range []uint32{1, 2, 3, 4, 5} {
			expectRight(t, k.want, withGrants(grants(k.start, k.size, rights)), "a grant's place")
		}
	}
}

// Every start and size near each end of what may be granted.
func TestGrantNearTheEnds(t *testing.T) {
	for _, near := range []uint32{first, first + 0x800, ramEnd} {
		for start := near - 9; start <= near+9; start++ {
			for size := range uint32(18) {
				m := withGrants(grants(start, size, 3))
				expectRight(t, judged(m), m, "a grant near an end")
			}
			for _, end := range []uint32{ramEnd - 8, ramEnd - 5, ramEnd - 4, ramEnd - 1, ramEnd, ramEnd + 1, ramEnd + 4} {
				m := withGrants(grants(start, end-start, 3))
				expectRight(t, judged(m), m, "a grant up to the end")
			}
		}
	}
}

func TestOrderOfGrants(t *testing.T) {
	low, high := []uint32{first, 4, 1}, []uint32{first + 8, 4, 1}
	join := func(l ...[]uint32) []api.Grant {
		var all []uint32
		for _, x := range l {
			all = append(all, x...)
		}
		return grants(all...)
	}
	expectRight(t, api.OK, withGrants(join(low, high)), "rising")
	expectRight(t, api.ErrGrant, withGrants(join(high, low)), "falling")
	expectRight(t, api.ErrGrant, withGrants(join(low, low)), "equal")
	expectRight(t, api.OK, withGrants(join(high), join(low)), "falling from payload to payload")
	expectRight(t, api.ErrGrant, withGrants(grants(first+16, 4, 1), join(high, low)), "falling in the second payload")
	// The grant before is what counts, not the first one.
	expectRight(t, api.ErrGrant, withGrants(grants(first, 4, 1, first+16, 4, 1, first+8, 4, 1)), "up and down")
}

func TestOverlap(t *testing.T) {
	const g = first + 0x100
	for _, k := range []struct {
		start, size uint32
		want        api.Errno
	}{
		{g - 8, 4, api.OK}, {g - 4, 4, api.OK}, {g + 12, 4, api.OK}, {g + 16, 4, api.OK},
		{g - 4, 8, api.ErrOver}, {g - 4, 16, api.ErrOver}, {g - 4, 20, api.ErrOver}, {g - 4, 400, api.ErrOver},
		{g, 4, api.ErrOver}, {g, 12, api.ErrOver}, {g, 16, api.ErrOver},
		{g + 4, 4, api.ErrOver}, {g + 4, 8, api.ErrOver}, {g + 4, 12, api.ErrOver},
		{g + 8, 4, api.ErrOver}, {g + 8, 8, api.ErrOver},
	} {
		fixed, other := grants(g, 12, 1), grants(k.start, k.size, 1)
		expectRight(t, k.want, withGrants(fixed, other), "behind a payload")
		expectRight(t, k.want, withGrants(fixed, grants(first, 4, 1), grants(ramEnd-8, 8, 4), other), "behind three payloads")
		expectRight(t, k.want, withGrants(append(grants(first, 4, 1), fixed...), append(other, grants(ramEnd-8, 8, 4)...)), "between grants")
		if k.start > g {
			expectRight(t, k.want, withGrants(append(fixed, other...)), "in one payload")
		}
	}
	// A grant may be over one that isn't the last of those before it.
	expectRight(t, api.ErrOver, withGrants(grants(first, 64, 1), grants(first+64, 4, 1), grants(first+4, 4, 1)), "over the first")
	expectRight(t, api.ErrOver, withGrants(grants(first, 64, 1, first+32, 4, 1)), "inside the one before")
}

func TestOrderOfChecks(t *testing.T) {
	const badForm, badGrant, over = 1, 2, 3
	payload := func(fault int, place uint32) api.Payload {
		p := api.Payload{Grants: grants(place, 8, 1)}
		switch fault {
		case badForm:
			p.Bias = 2
		case badGrant:
			p.Grants[0].Rights = 7
		case over:
			p.Grants = append(p.Grants, grants(place+4, 8, 1)...)
		}
		return p
	}
	want := []api.Errno{api.OK, api.ErrForm, api.ErrGrant, api.ErrOver}
	for a := range want {
		for b := range want {
			m := api.Manifest{Payloads: []api.Payload{payload(a, first), payload(b, first+64)}}
			e := want[a]
			if a == 0 {
				e = want[b]
			}
			expectRight(t, e, m, "a fault in each payload")
			m.Key = 256
			expectRight(t, api.ErrForm, m, "Key comes first")
		}
	}
	m := api.Manifest{Payloads: []api.Payload{payload(badGrant, first)}}
	m.Payloads[0].Calls = 256
	expectRight(t, api.ErrForm, m, "a payload comes before its grants")
	expectRight(t, api.ErrGrant, withGrants(grants(first, 8, 1), grants(first, 8, 6)), "an invalid grant over another")
	expectRight(t, api.ErrGrant, withGrants(grants(first+8, 8, 1, first+4, 8, 1)), "a lower grant over another")
	expectRight(t, api.ErrOver, withGrants(grants(first, 8, 1), grants(first, 8, 1, first+8, 4, 7)), "over, and then invalid")
	expectRight(t, api.ErrGrant, withGrants(grants(first, 8, 1, first, 4, 7), grants(first, 8, 1)), "invalid, and then over")
	tooMany := append(fullManifest().Payloads, payload(badGrant, first))
	tooMany[0].Grants[0].Rights = 7
	expectRight(t, api.ErrForm, api.Manifest{Payloads: tooMany}, "the number of payloads comes first")
}

// judged is what the chapter's checks say of m, with RAM byte by byte.
func judged(m api.Manifest) api.Errno {
	if m.Key < 0 || m.Key > 255 || len(m.Payloads) < 1 || len(m.Payloads) > 4 {
		return api.ErrForm
	}
	var granted [0x10000]bool
	for _, p := range m.Payloads {
		if len(p.Grants) < 1 || len(p.Grants) > 4 || p.Calls < 0 || p.Calls > 255 || p.Size > 32768 || p.Bias&3 != 0 {
			return api.ErrForm
		}
		last := uint32(0)
		for _, g := range p.Grants {
			end := int64(g.Start) + int64(g.Size)
			if g.Start < first || end > ramEnd || g.Start&3 != 0 || g.Size&3 != 0 || g.Size == 0 || g.Start <= last {
				return api.ErrGrant
			}
			if g.Rights < 1 || g.Rights > 5 {
				return api.ErrGrant
			}
			last = g.Start
			for a := g.Start; int64(a) < end; a++ {
				if granted[a&0xFFFF] {
					return api.ErrOver
				}
				granted[a&0xFFFF] = true
			}
		}
	}
	return api.OK
}

// pick returns mostly the usual number, and seldom one of the others.
func pick[T any](random *rand.Rand, usual T, others ...T) T {
	if random.Intn(40) > 0 {
		return usual
	}
	return others[random.Intn(len(others))]
}

// someManifest returns one that is valid, or nearly so.
func someManifest(random *rand.Rand) api.Manifest {
	m := api.Manifest{Counter: random.Uint32(), Key: pick(random, random.Intn(256), -1, 0, 255, 256)}
	place := uint32(first)
	for range pick(random, 1+random.Intn(4), 0, 5) {
		p := api.Payload{
			Size:  pick(random, uint32(random.Intn(32769)), 0, 32768, 32769, math.MaxUint32),
			Bias:  pick(random, 4*random.Uint32(), 1, 2, 3, math.MaxUint32),
			Calls: pick(random, random.Intn(256), -1, 0, 255, 256),
		}
		random.Read(p.Digest[:])
		for range pick(random, 1+random.Intn(4), 0, 5) {
			size := 4 * uint32(1+random.Intn(8))
			p.Grants = append(p.Grants, api.Grant{
				Start:  pick(random, place, place-4, place-8, place-16, place+2, first-4, ramEnd),
				Size:   pick(random, size, 0, 1, size+2, size+4, size+16, ramEnd-place, ramEnd-place+4, math.MaxUint32-3),
				Rights: pick(random, 1+random.Intn(5), -1, 0, 6, 7, 8),
			})
			place += size + 4*uint32(random.Intn(3))
		}
		m.Payloads = append(m.Payloads, p)
	}
	return m
}

func TestSomeManifests(t *testing.T) {
	random := rand.New(rand.NewSource(1))
	times := map[api.Errno]int{}
	for range 20000 {
		m := someManifest(random)
		want := judged(m)
		times[want]++
		expectRight(t, want, m, "some manifest")
	}
	for _, e := range []api.Errno{api.OK, api.ErrForm, api.ErrGrant, api.ErrOver} {
		if times[e] < 200 {
			t.Errorf("error %d: only %d manifests", e, times[e])
		}
	}
}

func TestManifestStays(t *testing.T) {
	for _, m := range []api.Manifest{twoPayloads(), fullManifest()} {
		m.Payloads = append(m.Payloads, api.Payload{Calls: 77})[:len(m.Payloads)]
		before := copyOf(m)
		manifest.Right(m)
		b := manifest.Encode(m)
		clear(b)
		if !reflect.DeepEqual(m, before) || m.Payloads[:len(m.Payloads)+1][len(m.Payloads)].Calls != 77 {
			t.Errorf("modified: %+v", m)
		}
	}
}
