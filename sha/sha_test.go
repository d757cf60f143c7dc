package sha_test

import (
	"bytes"
	"crypto/sha256"
	"encoding/hex"
	"math/rand"
	"strings"
	"testing"

	"portico/sha"
)

// message returns n bytes, no block of them like another one.
func message(n int) []byte {
	b := make([]byte, n)
	x := uint32(2463534242)
	for i := range b {
		x ^= x << 13
		x ^= x >> 17
		x ^= x << 5
		b[i] = byte(x)
	}
	return b
}

func TestKnownDigests(t *testing.T) {
	for _, c := range []struct{ name, message, want string }{
		{"empty", "", "e3b0c44298fc1c149afbf4c8996fb92427ae41e4649b934ca495991b7852b855"},
		{"one block", "abc", "ba7816bf8f01cfea414140de5dae2223b00361a396177a9cb410ff61f20015ad"},
		{"two blocks", "abcdbcdecdefdefgefghfghighijhijkijkljklmklmnlmnomnopnopq", "248d6a61d20638b8e5c026930c3e6039a33ce45964ff2167f6ecedd419db06c1"},
		{"four bytes", "\xc9\x8c\x8e\x55", "7abc22c0ae5af26ce93dbb94433a0e0b2e119d014f8e7f65bd56c61ccccd9504"},
		{"a million a", strings.Repeat("a", 1000000), "cdc76e5c9914fb9281a1c7e284d73e67f1809a48a497200e046d39ccc7112cd0"},
	} {
		d := sha.Of([]byte(c.message))
		if got := hex.EncodeToString(d[:]); got != c.want {
			t.Errorf("%s: got %s, want %s", c.name, got, c.want)
		}
	}
}

// Lengths up to several blocks reach each place where the padding can begin,
// and both sides of 56 bytes, where it needs a block more.
func TestEveryLength(t *testing.T) {
	all := message(400)
	for n := range len(all) + 1 {
		if sha.Of(all[:n]) != sha256.Sum256(all[:n]) {
			t.Errorf("length %d: wrong digest", n)
		}
	}
	for _, fill := range []byte{0x00, 0x80, 0xFF} {
		same := bytes.Repeat([]byte{fill}, 200)
		for n := range len(same) + 1 {
			if sha.Of(same[:n]) != sha256.Sum256(same[:n]) {
				t.Errorf("%d bytes of %d: wrong digest", n, fill)
			}
		}
	}
}

func TestNilBytesAreTheEmptyMessage(t *testing.T) {
	want := sha256.Sum256(nil)
	if sha.Of(nil) != want || sha.Of([]byte{}) != want || sha.New().Sum() != want {
		t.Error("wrong digest of the empty message")
	}
}

func TestEverySplitInTwo(t *testing.T) {
	for _, n := range []int{1, 55, 56, 63, 64, 65, 119, 120, 127, 128, 129, 200} {
		b := message(n)
		want := sha256.Sum256(b)
		for i := range n + 1 {
			h := sha.New()
			h.Write(b[:i])
			h.Write(b[i:])
			if h.Sum() != want {
				t.Errorf("%d bytes, divided at %d: wrong digest", n, i)
			}
		}
	}
}

func TestPiecesOfOneSize(t *testing.T) {
	b := message(1000)
	want := sha256.Sum256(b)
	for size := 1; size <= 200; size++ {
		h := sha.New()
		for rest := b; len(rest) > 0; {
			n := min(size, len(rest))
			h.Write(rest[:n])
			rest = rest[n:]
		}
		if h.Sum() != want {
			t.Errorf("pieces of %d bytes: wrong digest", size)
		}
	}
}

func TestRandomPieces(t *testing.T) {
	r := rand.New(rand.NewSource(1))
	for range 300 {
		b := message(r.Intn(2000))
		h := sha.New()
		for rest := b; len(rest) > 0; {
			n := min(r.Intn(150), len(rest))
			h.Write(rest[:n])
			rest = rest[n:]
		}
		if h.Sum() != sha256.Sum256(b) {
			t.Fatalf("%d bytes in random pieces: wrong digest", len(b))
		}
	}
}

func TestEmptyWritesChangeNothing(t *testing.T) {
	b := message(150)
	h := sha.New()
	for i := range b {
		h.Write(nil)
		h.Write(b[i : i+1])
		h.Write([]byte{})
	}
	if h.Sum() != sha256.Sum256(b) {
		t.Error("wrong digest with empty writes between the bytes")
	}
}

func TestMoreMayBeWrittenAfterSum(t *testing.T) {
	b := message(300)
	h := sha.New()
	for i := range b {
		want := sha256.Sum256(b[:i])
		if h.Sum() != want || h.Sum() != want {
			t.Fatalf("after %d bytes: wrong digest", i)
		}
		h.Write(b[i : i+1])
	}
}

func TestHashesAreIndependent(t *testing.T) {
	a, b := message(100), message(230)[100:]
	first, second := sha.New(), sha.New()
	for i := range 100 {
		first.Write(a[i : i+1])
		second.Write(b[i : i+1])
		sha.Of(b)
	}
	second.Write(b[100:])
	if first.Sum() != sha256.Sum256(a) || second.Sum() != sha256.Sum256(b) {
		t.Error("two hashes that are written in turn disturb each other")
	}
}

func TestArgumentIsNotModified(t *testing.T) {
	memory := message(500)
	before := bytes.Clone(memory)
	for n := range 300 {
		part := memory[:n] // with the rest as its unused capacity
		sha.Of(part)
		h := sha.New()
		h.Write(part)
		h.Sum()
		if !bytes.Equal(memory, before) {
			t.Fatalf("a message of %d bytes was modified", n)
		}
	}
}

func TestArgumentIsNotRetained(t *testing.T) {
	for _, n := range []int{1, 63, 64, 65, 130} {
		b := message(n)
		want := sha256.Sum256(b)
		h := sha.New()
		h.Write(b)
		clear(b)
		if h.Sum() != want {
			t.Errorf("%d bytes: clearing what was written changed the digest", n)
		}
	}
}

func TestDigestIsACopy(t *testing.T) {
	h := sha.New()
	h.Write([]byte("abc"))
	d := h.Sum()
	clear(d[:])
	if h.Sum() != sha256.Sum256([]byte("abc")) {
		t.Error("clearing a digest changed the next one")
	}
}

func TestNilHash(t *testing.T) {
	var h *sha.Hash
	if h.Sum() != [32]byte{} {
		t.Error("a nil Hash has a digest")
	}
	h.Write([]byte("abc"))
	h.Write(nil)
	if h != nil || h.Sum() != [32]byte{} {
		t.Error("a nil Hash keeps what is written")
	}
}

// A message of 2^29 bytes is the first one whose length in bits needs more
// than 32 bits.
func TestLengthBeyond32Bits(t *testing.T) {
	if testing.Short() {
		t.Skip("hashes half a gigabyte")
	}
	piece := message(1 << 20)
	h, want := sha.New(), sha256.New()
	for range 1 << 9 {
		h.Write(piece)
		want.Write(piece)
	}
	h.Write([]byte{1})
	want.Write([]byte{1})
	if d := h.Sum(); !bytes.Equal(d[:], want.Sum(nil)) {
		t.Error("wrong digest of 2^29 + 1 bytes")
	}
}
