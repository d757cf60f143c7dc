package manifest

import (
	"portico/api"
	"portico/bytes"
)

// Encode returns the encoding of m, or no bytes if m isn't valid.
func Encode(m api.Manifest) []byte {
	if Right(m) != api.OK {
		return nil
	}
	b := bytes.P32([]byte(Mark), m.Counter)
	b = append(b, byte(m.Key), byte(len(m.Payloads)), 0, 0)
	for _, p := range m.Payloads {
		b = appendPayload(b, p)
	}
	return b
}

func appendPayload(b []byte, p api.Payload) []byte {
	b = append(b, p.Digest[:]...)
	b = bytes.P32(b, p.Size)
	b = bytes.P32(b, p.Bias)
	b = append(b, byte(p.Calls), byte(len(p.Grants)), 0, 0)
	for _, g := range p.Grants {
		b = bytes.P32(b, g.Start)
		b = bytes.P32(b, g.Size)
		b = bytes.P32(b, uint32(g.Rights))
	}
	return b
}

// Decode returns the manifest whose encoding is b, ErrForm if b doesn't have
// the format of an encoding, and otherwise Right's error.
func Decode(b []byte) (api.Manifest, api.Errno) {
	m, ok := readManifest(bytes.At(b))
	if !ok {
		return api.Manifest{}, api.ErrForm
	}
	if e := Right(m); e != api.OK {
		return api.Manifest{}, e
	}
	return m, api.OK
}

// readManifest reports whether everything from c on has the format of an
// encoding; the manifest is complete only then, and may be invalid.
func readManifest(c *bytes.Cursor) (api.Manifest, bool) {
	if string(c.Take(len(Mark))) != Mark {
		return api.Manifest{}, false
	}
	m := api.Manifest{Counter: c.U32(), Key: c.U8()}
	count, ok := readCount(c, api.MaxPayloads)
	for range count {
		p, good := readPayload(c)
		ok = ok && good
		m.Payloads = append(m.Payloads, p)
	}
	return m, ok && c.End()
}

func readPayload(c *bytes.Cursor) (api.Payload, bool) {
	p := api.Payload{Digest: readDigest(c.Take), Size: c.U32(), Bias: c.U32(), Calls: c.U8()}
	count, ok := readCount(c, api.MaxGrants)
	for range count {
		g, good := readGrant(c)
		ok = ok && good
		p.Grants = append(p.Grants, g)
	}
	return p, ok
}

// readCount reads a count of at most limit, and the two zero bytes behind it.
func readCount(c *bytes.Cursor, limit int) (int, bool) {
	count, zeros := c.U8(), c.U16()
	if count > limit || zeros != 0 {
		return 0, false
	}
	return count, true
}

func readDigest(take func(n int) []byte) (d [32]byte) {
	copy(d[:], take(len(d)))
	return d
}

func readGrant(c *bytes.Cursor) (api.Grant, bool) {
	start, size, rights := c.U32(), c.U32(), c.U32()
	// Compared before the conversion, which could make a great number negative.
	if rights > maxRights {
		return api.Grant{}, false
	}
	return api.Grant{Start: start, Size: size, Rights: int(rights)}, true
}
