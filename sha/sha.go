// Package sha is layer 1: the SHA-256 hash function (FIPS 180-4).
package sha

const (
	blockSize  = 64
	lengthSize = 8 // bytes of the message length, at the end of the last block
	endMark    = 0x80
)

// A Hash is the state of a message that is still being written.
type Hash struct {
	state  [8]uint32       // after all full blocks
	rest   [blockSize]byte // starts with the bytes behind the last full block
	length uint64          // of the message, in bytes
}

// New returns the hash state of the empty message.
func New() *Hash {
	var s Hash
	for i := range s.state {
		s.state[i] = initial[i]
	}
	return &s
}

// Write appends b to the message. On a nil Hash it does nothing.
func (s *Hash) Write(b []byte) {
	if s == nil {
		return
	}
	for len(b) > 0 {
		n := copy(s.rest[s.length%blockSize:], b)
		s.length += uint64(n)
		b = b[n:]
		if s.length%blockSize == 0 {
			s.state = compress(s.state, s.rest)
		}
	}
}

// Sum returns the digest of everything that has been written; more bytes may
// be written afterwards. On a nil Hash it returns 32 zero bytes.
func (s *Hash) Sum() [32]byte {
	if s == nil {
		return [32]byte{}
	}
	padded := *s // a copy: the padding isn't part of the message
	padded.Write(padding(s.length))
	return digest(padded.state)
}

// Of returns the digest of b.
func Of(b []byte) [32]byte {
	s := New()
	s.Write(b)
	return s.Sum()
}

// padding returns what the padded message has behind a message of length bytes.
func padding(length uint64) []byte {
	zeros := (2*blockSize - 1 - lengthSize - length%blockSize) % blockSize
	pad := make([]byte, 1+zeros+lengthSize)
	pad[0] = endMark
	lengthInBits := length * 8
	for i := range lengthSize {
		pad[len(pad)-1-i] = byte(lengthInBits >> (8 * i))
	}
	return pad
}

// digest returns the words of a state, each most significant byte first.
func digest(state [8]uint32) [32]byte {
	var d [32]byte
	for i, word := range state {
		d[4*i] = byte(word >> 24)
		d[4*i+1] = byte(word >> 16)
		d[4*i+2] = byte(word >> 8)
		d[4*i+3] = byte(word)
	}
	return d
}
