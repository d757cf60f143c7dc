package manifest_test

import (
	"bytes"
	"encoding/binary"
	"math/rand"
	"reflect"
	"testing"

	"portico/api"
	"portico/manifest"
)

// written is the encoding of a manifest that may be invalid.
func written(m api.Manifest) []byte {
	b := binary.LittleEndian.AppendUint32([]byte("PORTICO1"), m.Counter)
	b = append(b, byte(m.Key), byte(len(m.Payloads)), 0, 0)
	for _, p := range m.Payloads {
		b = append(b, p.Digest[:]...)
		b = binary.LittleEndian.AppendUint32(b, p.Size)
		b = binary.LittleEndian.AppendUint32(b, p.Bias)
		b = append(b, byte(p.Calls), byte(len(p.Grants)), 0, 0)
		for _, g := range p.Grants {
			b = binary.LittleEndian.AppendUint32(b, g.Start)
			b = binary.LittleEndian.AppendUint32(b, g.Size)
			b = binary.LittleEndian.AppendUint32(b, uint32(g.Rights))
		}
	}
	return b
}

// canBeWritten reports whether m has the format of an encoding.
func canBeWritten(m api.Manifest) bool {
	ok := m.Key >= 0 && m.Key < 256 && len(m.Payloads) <= 4
	for _, p := range m.Payloads {
		ok = ok && p.Calls >= 0 && p.Calls < 256 && len(p.Grants) <= 4
		for _, g := range p.Grants {
			ok = ok && g.Rights >= 0 && g.Rights <= 7
		}
	}
	return ok
}

// twoPayloadsWritten is the encoding of twoPayloads, as the chapter tells it.
func twoPayloadsWritten() []byte {
	one, two := someDigest(1), someDigest(2)
	return bytes.Join([][]byte{
		[]byte("PORTICO1"),
		{0x01, 0x02, 0x03, 0x04},
		{5, 2},
		{0, 0},
		one[:],
		{0x34, 0x12, 0, 0},
		{0x00, 0x40, 0x00, 0x80},
		{0xA5, 2},
		{0, 0},
		{0x00, 0x40, 0x00, 0x80, 0x00, 0x10, 0, 0, 5, 0, 0, 0},
		{0x00, 0x50, 0x00, 0x80, 0x00, 0x08, 0, 0, 3, 0, 0, 0},
		two[:],
		{0x20, 0, 0, 0},
		{0xFC, 0xFF, 0xFF, 0xFF},
		{1, 1},
		{0, 0},
		{0x00, 0x10, 0x00, 0x80, 0x00, 0x30, 0, 0, 4, 0, 0, 0},
	}, nil)
}

func expectDecoded(t *testing.T, b []byte, want api.Manifest, wantError api.Errno, what string) {
	t.Helper()
	m, e := manifest.Decode(b)
	if e != wantError || !reflect.DeepEqual(m, want) {
		t.Errorf("%s: got %+v, %d; want %+v, %d; bytes %X", what, m, e, want, wantError, b)
	}
}

func expectNoManifest(t *testing.T, b []byte, want api.Errno, what string) {
	t.Helper()
	expectDecoded(t, b, api.Manifest{}, want, what)
}

func TestMark(t *testing.T) {
	if manifest.Mark != "PORTICO1" {
		t.Error(manifest.Mark)
	}
}

func TestKnownEncoding(t *testing.T) {
	if got := manifest.Encode(twoPayloads()); !bytes.Equal(got, twoPayloadsWritten()) {
		t.Errorf("got  %X\nwant %X", got, twoPayloadsWritten())
	}
	expectDecoded(t, twoPayloadsWritten(), twoPayloads(), api.OK, "two payloads")
	if got := manifest.Encode(fullManifest()); !bytes.Equal(got, written(fullManifest())) || len(got) != 16+4*(44+4*12) {
		t.Errorf("a full manifest: got %X", got)
	}
	expectDecoded(t, written(fullManifest()), fullManifest(), api.OK, "a full manifest")
}

func TestDecodeIncomplete(t *testing.T) {
	for _, b := range [][]byte{twoPayloadsWritten(), written(fullManifest())} {
		for n := range b {
			expectNoManifest(t, b[:n], api.ErrForm, "incomplete")
		}
	}
	expectNoManifest(t, nil, api.ErrForm, "nil")
	expectNoManifest(t, []byte("PORTICO1"), api.ErrForm, "the mark alone")
	expectNoManifest(t, make([]byte, 400), api.ErrForm, "zeros")
	expectNoManifest(t, bytes.Repeat([]byte{0xFF}, 400), api.ErrForm, "ones")
}

func TestDecodeTooLong(t *testing.T) {
	for _, b := range [][]byte{twoPayloadsWritten(), written(fullManifest())} {
		for n := 1; n < 200; n++ {
			expectNoManifest(t, append(bytes.Clone(b), make([]byte, n)...), api.ErrForm, "zeros behind it")
		}
		expectNoManifest(t, append(bytes.Clone(b), b...), api.ErrForm, "twice")
	}
	m := twoPayloads()
	m.Payloads[0].Grants[0].Rights = 7
	expectNoManifest(t, append(written(m), 0), api.ErrForm, "an invalid grant, and a byte behind the end")
	m = twoPayloads()
	m.Payloads = append(m.Payloads, m.Payloads[1])
	b := written(m)
	b[13] = 2
	expectNoManifest(t, b, api.ErrForm, "a payload more than the count says")
	b[13] = 3
	expectNoManifest(t, b, api.ErrOver, "as many as the count says")
	b[13] = 4
	expectNoManifest(t, b, api.ErrForm, "a payload less than the count says")
}

// Each change of one byte is the encoding of another manifest, or of none.
func TestChangedBytes(t *testing.T) {
	for _, original := range [][]byte{twoPayloadsWritten(), written(fullManifest())} {
		for i := range original {
			for x := range 256 {
				b := bytes.Clone(original)
				b[i] = byte(x)
				m, e := manifest.Decode(b)
				want, wantError := readSlowly(b)
				if e != wantError || !reflect.DeepEqual(m, want) {
					t.Fatalf("byte %d is %d: got %+v, %d; want %+v, %d", i, x, m, e, want, wantError)
				}
				if e == api.OK && !bytes.Equal(manifest.Encode(m), b) {
					t.Fatalf("byte %d is %d: encoding the result gives %X", i, x, manifest.Encode(m))
				}
			}
		}
	}
}

// readSlowly reads what it can of b, and asks whether this is written as b is.
func readSlowly(b []byte) (api.Manifest, api.Errno) {
	padded := append(bytes.Clone(b), make([]byte, 200)...)
	number := func(at int) uint32 { return binary.LittleEndian.Uint32(padded[at:]) }
	m := api.Manifest{Counter: number(8), Key: int(padded[12])}
	at := 16
	for range padded[13] {
		p := api.Payload{Digest: [32]byte(padded[at:]), Size: number(at + 32), Bias: number(at + 36), Calls: int(padded[at+40])}
		count := int(padded[at+41])
		at += 44
		for ; len(p.Grants) < count && at+12 <= len(b); at += 12 {
			p.Grants = append(p.Grants, api.Grant{Start: number(at), Size: number(at + 4), Rights: int(number(at + 8))})
		}
		m.Payloads = append(m.Payloads, p)
		if at > len(b) {
			break
		}
	}
	if !canBeWritten(m) || !bytes.Equal(written(m), b) {
		return api.Manifest{}, api.ErrForm
	}
	if e := judged(m); e != api.OK {
		return api.Manifest{}, e
	}
	return m, api.OK
}

// Where the bytes of twoPayloads' encoding stand.
const (
	zerosAt       = 14
	payloadsAt    = 13
	grantsAt      = 16 + 41
	payloadZeros  = 16 + 42
	rightsAt      = 16 + 44 + 8
	secondPayload = 16 + 44 + 24
)

func TestDecodeZeros(t *testing.T) {
	for _, at := range []int{zerosAt, zerosAt + 1, payloadZeros, payloadZeros + 1, secondPayload + 42, secondPayload + 43} {
		for _, x := range []byte{1, 0x80, 0xFF} {
			b := twoPayloadsWritten()
			b[at] = x
			expectNoManifest(t, b, api.ErrForm, "a byte that should be 0")
			b[rightsAt] = 7
			expectNoManifest(t, b, api.ErrForm, "a byte that should be 0, and an invalid grant")
		}
	}
}

// What the format rules out comes before what makes a manifest invalid.
func TestDecodeFormatFirst(t *testing.T) {
	invalid := twoPayloads()
	invalid.Payloads[0].Grants[0].Rights = 0
	expectNoManifest(t, written(invalid), api.ErrGrant, "an invalid grant")
	for _, k := range []struct {
		at   int
		x    byte
		what string
	}{
		{0, 'p', "another mark"},
		{7, '2', "another version"},
		{payloadsAt, 5, "5 payloads"},
		{payloadsAt, 255, "255 payloads"},
		{secondPayload + 41, 5, "5 grants"},
		{secondPayload + 41, 255, "255 grants"},
		{secondPayload + 44 + 8, 8, "Rights of 8"},
		{secondPayload + 44 + 8, 255, "Rights of 255"},
		{secondPayload + 44 + 9, 1, "Rights of 260"},
		{secondPayload + 44 + 10, 1, "Rights of 65540"},
		{secondPayload + 44 + 11, 0x80, "Rights with the highest bit"},
		{secondPayload + 44 + 11, 0xFF, "Rights with the highest bits"},
	} {
		b := twoPayloadsWritten()
		b[k.at] = k.x
		expectNoManifest(t, b, api.ErrForm, k.what)
		b = written(invalid)
		b[k.at] = k.x
		expectNoManifest(t, b, api.ErrForm, k.what+" behind an invalid grant")
	}
}

// Five grants, or payloads, are too many for the format even if they are all there.
func TestDecodeTooMany(t *testing.T) {
	m := fullManifest()
	m.Payloads[0].Grants[0].Rights = 7
	m.Payloads = append(m.Payloads, withGrants(grants(ramEnd-4, 4, 1)).Payloads...)
	expectNoManifest(t, written(m), api.ErrForm, "5 payloads")
	m = withGrants(grants(first, 4, 7), grants(first+4, 4, 1, first+8, 4, 1, first+12, 4, 1, first+16, 4, 1, first+20, 4, 1))
	expectNoManifest(t, written(m), api.ErrForm, "5 grants behind an invalid one")
}

// What makes a manifest invalid but has the format is left to Right, in its order.
func TestDecodeInvalid(t *testing.T) {
	for _, k := range []struct {
		change func(p *api.Payload)
		what   string
	}{
		{func(p *api.Payload) { p.Grants = nil }, "no grants"},
		{func(p *api.Payload) { p.Size = 32769 }, "Size"},
		{func(p *api.Payload) { p.Bias = 1 }, "Bias"},
	} {
		m := twoPayloads()
		k.change(&m.Payloads[1])
		expectNoManifest(t, written(m), api.ErrForm, k.what)
		m.Payloads[0].Grants[0].Rights = 0
		expectNoManifest(t, written(m), api.ErrGrant, k.what+" behind an invalid grant")
		m.Payloads[0].Grants = grants(first, 8, 1, first+4, 4, 1)
		expectNoManifest(t, written(m), api.ErrOver, k.what+" behind an overlap")
		k.change(&m.Payloads[0])
		expectNoManifest(t, written(m), api.ErrForm, k.what+" before an overlap")
	}
	expectNoManifest(t, written(api.Manifest{}), api.ErrForm, "no payloads")
}

func TestRoundTrip(t *testing.T) {
	random := rand.New(rand.NewSource(2))
	for valid := 0; valid < 5000; {
		m := someManifest(random)
		if judged(m) != api.OK {
			continue
		}
		valid++
		b := manifest.Encode(m)
		expectDecoded(t, b, m, api.OK, "the encoding of a valid manifest")
		if !bytes.Equal(b, written(m)) {
			t.Errorf("%+v is encoded as %X", m, b)
		}
	}
}

func TestRandomBytesBehindTheMark(t *testing.T) {
	random := rand.New(rand.NewSource(3))
	for range 20000 {
		b := append([]byte("PORTICO1"), make([]byte, random.Intn(450))...)
		random.Read(b[8:])
		if len(b) >= 16 {
			copy(b[13:], []byte{byte(random.Intn(6)), 0, 0})
		}
		want, wantError := readSlowly(b)
		expectDecoded(t, b, want, wantError, "random bytes")
	}
}

// The results are new memory, of which no two parts overlap.
func TestResultsAreNew(t *testing.T) {
	b := twoPayloadsWritten()
	b = append(b, 1, 2, 3)[:len(b)]
	m, _ := manifest.Decode(b)
	if !bytes.Equal(b, twoPayloadsWritten()) || !bytes.Equal(b[len(b):len(b)+3], []byte{1, 2, 3}) {
		t.Errorf("Decode modified its argument: %X", b)
	}
	clear(b)
	for i, p := range m.Payloads {
		_ = append(p.Grants, api.Grant{Start: 1}, api.Grant{Start: 2})
		if !reflect.DeepEqual(p, twoPayloads().Payloads[i]) {
			t.Errorf("payload %d hangs on other memory: %+v", i, p)
		}
	}
	if again, _ := manifest.Decode(twoPayloadsWritten()); !reflect.DeepEqual(m, again) || !reflect.DeepEqual(m, twoPayloads()) {
		t.Errorf("got %+v, and then %+v", m, again)
	}
	one, two := manifest.Encode(m), manifest.Encode(m)
	clear(append(one, 9)[:len(one)+1])
	if !bytes.Equal(two, twoPayloadsWritten()) {
		t.Errorf("two encodings share memory: %X", two)
	}
}
