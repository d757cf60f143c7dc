package manifest_test

import (
	"bytes"
	"crypto/elliptic"
	"crypto/sha256"
	"encoding/binary"
	"math"
	"math/big"
	"math/rand"
	"reflect"
	"testing"

	"portico/api"
	"portico/manifest"
)

var curveOf = elliptic.P256().Params()

// pair encodes two numbers as keys and signatures do.
func pair(a, b *big.Int) []byte {
	l := make([]byte, 64)
	a.FillBytes(l[:32])
	b.FillBytes(l[32:])
	return l
}

// publicKey returns the public key of a private one.
func publicKey(private byte) []byte {
	return pair(elliptic.P256().ScalarBaseMult([]byte{private}))
}

// signed returns a signature of msg. Its nonce is 1, so that R is the X of the
// base point, and S needs no division.
func signed(private byte, msg []byte) []byte {
	d := sha256.Sum256(msg)
	s := new(big.Int).Mul(curveOf.Gx, big.NewInt(int64(private)))
	s.Add(s, new(big.Int).SetBytes(d[:]))
	return pair(curveOf.Gx, s.Mod(s, curveOf.N))
}

// trusted returns public keys; the private one of the key i is i + 1.
func trusted(n int) []string {
	var keys []string
	for i := range n {
		keys = append(keys, string(publicKey(byte(i+1))))
	}
	return keys
}

// A draft is what an image is made from.
type draft struct {
	manifest api.Manifest
	files    [][]byte
	keys     []string
	counter  uint32
	private  byte // the key that signs
	encoded  []byte
	sig      []byte
	length   uint32 // that is written in front of the encoded manifest
}

// someDraft returns the draft of a good image whose files have those sizes.
func someDraft(sizes ...int) *draft {
	d := &draft{keys: trusted(3), counter: 1000}
	d.manifest = api.Manifest{Counter: 1000, Key: 1}
	for i, n := range sizes {
		file := make([]byte, n)
		rand.New(rand.NewSource(int64(i))).Read(file)
		d.files = append(d.files, file)
		place := uint32(first + 0x1000*i)
		d.manifest.Payloads = append(d.manifest.Payloads, api.Payload{
			Digest: sha256.Sum256(file), Size: uint32(n), Bias: place, Calls: 3 * i,
			Grants: grants(place, 0x400, 5, place+0x800, 0x400, 3),
		})
	}
	d.seal()
	return d
}

// seal encodes the manifest and signs it.
func (d *draft) seal() {
	d.encoded = written(d.manifest)
	d.private = byte(d.manifest.Key + 1)
	d.sign()
}

func (d *draft) sign() {
	d.sig = signed(d.private, d.encoded)
	d.length = uint32(len(d.encoded))
}

func (d *draft) image() []byte {
	b := binary.LittleEndian.AppendUint32(bytes.Clone(d.sig), d.length)
	b = append(b, d.encoded...)
	return append(b, bytes.Join(d.files, nil)...)
}

func (d *draft) expectOpen(t *testing.T, what string) {
	t.Helper()
	image, e := manifest.Open(d.image(), d.keys, d.counter)
	if e != api.OK || !reflect.DeepEqual(image.Manifest, d.manifest) || !sameFiles(image.Files, d.files) {
		t.Errorf("%s: got %d, %+v", what, e, image)
	}
}

func (d *draft) expectRefused(t *testing.T, want api.Errno, what string) {
	t.Helper()
	expectRefused(t, d.image(), d.keys, d.counter, want, what)
}

func expectRefused(t *testing.T, b []byte, keys []string, counter uint32, want api.Errno, what string) {
	t.Helper()
	image, e := manifest.Open(b, keys, counter)
	if e != want || !reflect.DeepEqual(image, manifest.Image{}) {
		t.Errorf("%s: got %d, want %d, with %+v; image %X", what, e, want, image, b)
	}
}

func sameFiles(a, b [][]byte) bool {
	if len(a) != len(b) {
		return false
	}
	for i := range a {
		if !bytes.Equal(a[i], b[i]) {
			return false
		}
	}
	return true
}

func TestOpen(t *testing.T) {
	for _, sizes := range [][]int{
		{100}, {0}, {1}, {63}, {64}, {100, 200}, {0, 0}, {7, 0, 9}, {0, 5}, {5, 0}, {0, 0, 0, 0}, {1, 2, 3, 4}, {4000, 3000, 2000, 1000},
	} {
		someDraft(sizes...).expectOpen(t, "an image")
	}
	d := someDraft()
	d.manifest, d.files = fullManifest(), [][]byte{{1}, {2, 3}, nil, make([]byte, 5000)}
	for i, file := range d.files {
		d.manifest.Payloads[i].Digest, d.manifest.Payloads[i].Size = sha256.Sum256(file), uint32(len(file))
	}
	d.keys = trusted(256)[:255]
	d.keys = append(d.keys, string(publicKey(1)))
	d.encoded, d.private = written(d.manifest), 1
	d.sign()
	d.expectOpen(t, "a full manifest")
	d.files[0], d.files[1] = d.files[1], d.files[0]
	d.expectRefused(t, api.ErrSum, "two files exchanged")
}

// 68 bytes stand in front of the manifest, and 16 + 44 + 2 * 12 in it.
const before = 64 + 4 + 16 + 44 + 2*12

func TestOpenLongest(t *testing.T) {
	someDraft(32768-before).expectOpen(t, "as long as can be")
	someDraft(32768-before-1).expectOpen(t, "a byte less")
	someDraft(32768-before+1).expectRefused(t, api.ErrLen, "a byte more")
	someDraft(32768).expectRefused(t, api.ErrLen, "a file as long as can be")
	expectRefused(t, make([]byte, 32769), nil, 0, api.ErrLen, "zeros")
	expectRefused(t, make([]byte, 32768), nil, 0, api.ErrForm, "zeros")
	expectRefused(t, make([]byte, 1<<20), nil, 0, api.ErrLen, "many zeros")
}

// Every part of an image from its start on, whatever follows.
func TestOpenIncomplete(t *testing.T) {
	d := someDraft(3, 0, 5)
	b := d.image()
	for n := range b {
		expectRefused(t, b[:n], d.keys, d.counter, api.ErrForm, "incomplete")
		expectRefused(t, b[:n], nil, d.counter, refusedWithoutKeys(n, d), "incomplete, and no keys")
	}
	expectRefused(t, nil, d.keys, d.counter, api.ErrForm, "nil")
}

// refusedWithoutKeys is the error for the first n bytes of an image.
func refusedWithoutKeys(n int, d *draft) api.Errno {
	if n < 68+len(d.encoded) {
		return api.ErrForm
	}
	return api.ErrKey
}

func TestOpenLength(t *testing.T) {
	d := someDraft(40, 50)
	right := d.length
	for _, n := range []uint32{
		0, 1, 8, right - 12, right - 1, right + 1, right + 12, right + 90, right + 91,
		32768, 65536, right + 65536, right + 1<<24, 1 << 31, right + 1<<31, math.MaxUint32 - 1, math.MaxUint32,
	} {
		d.length = n
		d.expectRefused(t, api.ErrForm, "another length")
	}
	// The manifest may go as far as the image does, but no farther.
	b := d.image()[:68+right]
	binary.LittleEndian.PutUint32(b[64:], right)
	expectRefused(t, b, nil, 0, api.ErrKey, "no files")
	expectRefused(t, b[:len(b)-1], nil, 0, api.ErrForm, "no files, and a byte less")
}

func TestOpenDecodes(t *testing.T) {
	d := someDraft(10, 20)
	d.manifest.Payloads[1].Grants[1].Rights = 7
	d.seal()
	d.expectRefused(t, api.ErrGrant, "an invalid grant")
	d = someDraft(10, 20)
	d.manifest.Payloads[1].Grants[0].Start -= 0x404
	d.seal()
	d.expectRefused(t, api.ErrOver, "an overlap")
	d = someDraft(10, 20)
	d.manifest.Payloads[0].Size = 32769
	d.seal()
	d.expectRefused(t, api.ErrForm, "a great size")
	d = someDraft(10, 20)
	d.encoded[zerosAt] = 1
	d.sign()
	d.expectRefused(t, api.ErrForm, "a byte that should be 0")
	d = someDraft(10, 20)
	d.encoded = append(d.encoded, 0)
	d.sign()
	d.expectRefused(t, api.ErrForm, "a byte behind the manifest")
	d = someDraft()
	d.expectRefused(t, api.ErrForm, "no payloads")
}

func TestOpenKeys(t *testing.T) {
	for key := range 4 {
		d := someDraft(10)
		d.manifest.Key = key
		d.seal()
		for n := range 6 {
			d.keys = trusted(n)
			if n > key {
				d.expectOpen(t, "a key of the list")
			} else {
				d.expectRefused(t, api.ErrKey, "no key of the list")
			}
		}
		for other := range 6 {
			d.keys = trusted(5)
			d.private = byte(other + 1)
			d.sign()
			if other != key {
				d.expectRefused(t, api.ErrSign, "signed with another key")
			}
		}
		// Only keys[Key] counts: the others may be anything.
		d.seal()
		d.keys = []string{"", "key", string(make([]byte, 64)), "", ""}
		d.expectRefused(t, api.ErrKey, "no keys but other strings")
		d.keys[key] = string(publicKey(byte(key + 1)))
		d.expectOpen(t, "one key among other strings")
	}
}

func TestOpenBadKeys(t *testing.T) {
	d := someDraft(10)
	good := d.keys[1]
	for _, key := range []string{"", good[:63], good + "\x00", "\x04" + good, string(make([]byte, 64)), good[32:] + good[:32]} {
		d.keys[1] = key
		d.expectRefused(t, api.ErrKey, "no public key")
	}
}

func TestOpenSignature(t *testing.T) {
	d := someDraft(10)
	for i := range 512 {
		d.sig[i/8] ^= 1 << (i % 8)
		d.expectRefused(t, api.ErrSign, "a bit of the signature")
		d.sig[i/8] ^= 1 << (i % 8)
	}
	d.sig = make([]byte, 64)
	d.expectRefused(t, api.ErrSign, "zeros")
	d.sig = signed(d.private, append(bytes.Clone(d.encoded), d.files[0]...))
	d.expectRefused(t, api.ErrSign, "a signature of manifest and file")
	d.sig = signed(d.private, append([]byte{byte(len(d.encoded)), 0, 0, 0}, d.encoded...))
	d.expectRefused(t, api.ErrSign, "a signature of length and manifest")
	d.sign()
	s := new(big.Int).SetBytes(d.sig[32:])
	d.sig = pair(curveOf.Gx, s.Sub(curveOf.N, s))
	d.expectOpen(t, "n - S")
}

// Each bit of the manifest is either checked by Decode or by the signature.
func TestOpenChangedManifest(t *testing.T) {
	d := someDraft(10, 0)
	for i := range 8 * len(d.encoded) {
		d.encoded[i/8] ^= 1 << (i % 8)
		m, want := manifest.Decode(d.encoded)
		if want == api.OK {
			want = api.ErrSign
			if m.Key >= len(d.keys) {
				want = api.ErrKey
			}
		}
		d.expectRefused(t, want, "a bit of the manifest")
		d.encoded[i/8] ^= 1 << (i % 8)
	}
	d.expectOpen(t, "all bits restored")
}

func TestOpenCounter(t *testing.T) {
	for _, k := range []struct {
		have, least uint32
		want        api.Errno
	}{
		{0, 0, api.OK}, {5, 5, api.OK}, {6, 5, api.OK}, {1 << 31, 1<<31 - 1, api.OK}, {1 << 31, 0, api.OK},
		{math.MaxUint32, 0, api.OK}, {math.MaxUint32, math.MaxUint32, api.OK}, {256, 255, api.OK},
		{0, 1, api.ErrOld}, {4, 5, api.ErrOld}, {1<<31 - 1, 1 << 31, api.ErrOld}, {0, 1 << 31, api.ErrOld},
		{0, math.MaxUint32, api.ErrOld}, {math.MaxUint32 - 1, math.MaxUint32, api.ErrOld}, {255, 256, api.ErrOld},
	} {
		d := someDraft(10)
		d.manifest.Counter, d.counter = k.have, k.least
		d.seal()
		if k.want == api.OK {
			d.expectOpen(t, "a counter")
		} else {
			d.expectRefused(t, k.want, "a counter")
		}
	}
}

// Each bit of each file counts.
func TestOpenDigests(t *testing.T) {
	d := someDraft(9, 0, 1, 20)
	for _, file := range d.files {
		for i := range 8 * len(file) {
			file[i/8] ^= 1 << (i % 8)
			d.expectRefused(t, api.ErrSum, "a bit of a file")
			file[i/8] ^= 1 << (i % 8)
		}
	}
	for i := range d.files {
		d = someDraft(9, 0, 1, 20)
		d.manifest.Payloads[i].Digest[31]++
		d.seal()
		d.expectRefused(t, api.ErrSum, "a digest")
	}
}

// The files are checked one after the other, each for its length and then for
// its digest.
func TestOpenFilesInOrder(t *testing.T) {
	for i := range 4 {
		d := someDraft(8, 8, 8, 8)
		d.files[i][0]++
		for missing := range 33 {
			want := api.ErrSum
			if 32-missing < 8*(i+1) {
				want = api.ErrForm
			}
			b := d.image()
			expectRefused(t, b[:len(b)-missing], d.keys, d.counter, want, "a changed file, and bytes missing")
		}
	}
	d := someDraft(8, 8)
	d.files[1] = nil
	d.manifest.Payloads[1].Digest = sha256.Sum256(nil)
	d.seal()
	d.expectRefused(t, api.ErrForm, "the digest of what is there")
}

func TestOpenTrailing(t *testing.T) {
	for _, sizes := range [][]int{{8}, {0}, {8, 0}, {1, 2, 3, 4}} {
		for n := 1; n < 100; n += 13 {
			d := someDraft(sizes...)
			b := append(d.image(), make([]byte, n)...)
			expectRefused(t, b, d.keys, d.counter, api.ErrForm, "bytes behind the files")
		}
	}
}

// Faults of an image, in the order in which they are reported.
func faults() []func(d *draft) api.Errno {
	return []func(d *draft) api.Errno{
		func(d *draft) api.Errno {
			d.files = append(d.files, make([]byte, 32768))
			return api.ErrLen
		},
		func(d *draft) api.Errno {
			d.length = 40000
			return api.ErrForm
		},
		func(d *draft) api.Errno {
			d.encoded[rightsAt] = 7
			d.resign()
			return api.ErrGrant
		},
		func(d *draft) api.Errno {
			d.keys = d.keys[:1]
			return api.ErrKey
		},
		func(d *draft) api.Errno {
			d.keys[len(d.keys)-1] = "no key"
			return api.ErrKey
		},
		func(d *draft) api.Errno {
			d.sig[63] ^= 1
			return api.ErrSign
		},
		func(d *draft) api.Errno {
			d.counter++
			return api.ErrOld
		},
		func(d *draft) api.Errno {
			d.files[0][3]++
			return api.ErrSum
		},
		func(d *draft) api.Errno {
			d.files = append(d.files, []byte{0})
			return api.ErrForm
		},
	}
}

// resign signs the changed manifest, and leaves the length as it is.
func (d *draft) resign() {
	length := d.length
	d.sign()
	d.length = length
}

func TestOpenOrderOfErrors(t *testing.T) {
	all := faults()
	for set := 1; set < 1<<len(all); set++ {
		d := someDraft(10, 20)
		d.keys = d.keys[:2]
		want := api.OK
		for i, fault := range all {
			if set>>i&1 == 0 {
				continue
			}
			if e := fault(d); want == api.OK {
				want = e
			}
		}
		d.expectRefused(t, want, "several faults")
	}
}

func TestOpenLeavesArguments(t *testing.T) {
	d := someDraft(10, 20)
	b := append(d.image(), 1, 2, 3)
	b = b[:len(b)-3]
	keys := append(trusted(3), "more")[:3]
	image, e := manifest.Open(b, keys, d.counter)
	if e != api.OK || !bytes.Equal(b[:len(b)+3], append(d.image(), 1, 2, 3)) {
		t.Errorf("got %d; the image is %X now", e, b[:len(b)+3])
	}
	if !reflect.DeepEqual(keys[:4], append(trusted(3), "more")) {
		t.Errorf("the keys are %X now", keys[:4])
	}
	clear(b)
	for i := range image.Files {
		_ = append(image.Files[i], 1, 2, 3)
	}
	if !reflect.DeepEqual(image.Manifest, d.manifest) || !sameFiles(image.Files, d.files) {
		t.Errorf("the result hangs on other memory: %+v", image)
	}
	clear(image.Files[0])
	if !bytes.Equal(image.Files[1], d.files[1]) {
		t.Error("two files share memory")
	}
}

func BenchmarkOpen(b *testing.B) {
	d := someDraft(1000, 2000, 3000, 4000)
	image := d.image()
	for b.Loop() {
		manifest.Open(image, d.keys, d.counter)
	}
}
