package manifest

import (
	"portico/api"
	"portico/bytes"
	"portico/sha"
	"portico/sign"
)

const signatureSize = 64

// An Image is what a signed image says: its manifest, and the files of the
// payloads in their order.
type Image struct {
	Manifest api.Manifest
	Files    [][]byte
}

// Open checks an image against the trusted public keys and the least counter
// that is accepted, and returns its manifest and files, or the error of the
// first check that fails.
func Open(image []byte, keys []string, counter uint32) (Image, api.Errno) {
	if len(image) > api.MaxImage {
		return Image{}, api.ErrLen
	}
	c := bytes.At(image)
	sig := c.Take(signatureSize)
	encoded := c.Take(int(c.U32()))
	if c.Bad() {
		return Image{}, api.ErrForm
	}
	m, e := openManifest(encoded, sig, keys, counter)
	if e != api.OK {
		return Image{}, e
	}
	files, e := openFiles(c.Take, m.Payloads)
	if e != api.OK {
		return Image{}, e
	}
	if !c.End() {
		return Image{}, api.ErrForm
	}
	return Image{Manifest: m, Files: files}, api.OK
}

// openManifest decodes a manifest, and checks its signature and its counter.
func openManifest(encoded, sig []byte, keys []string, counter uint32) (api.Manifest, api.Errno) {
	m, e := Decode(encoded)
	if e != api.OK {
		return api.Manifest{}, e
	}
	if m.Key >= len(keys) {
		return api.Manifest{}, api.ErrKey
	}
	if e := sign.Verify([]byte(keys[m.Key]), encoded, sig); e != api.OK {
		return api.Manifest{}, e
	}
	if m.Counter < counter {
		return api.Manifest{}, api.ErrOld
	}
	return m, api.OK
}

// openFiles takes the payloads' files, one after the other, and checks their
// digests.
func openFiles(take func(n int) []byte, payloads []api.Payload) ([][]byte, api.Errno) {
	var files [][]byte
	for _, p := range payloads {
		file := append([]byte(nil), take(int(p.Size))...)
		if len(file) != int(p.Size) {
			return nil, api.ErrForm
		}
		if sha.Of(file) != p.Digest {
			return nil, api.ErrSum
		}
		files = append(files, file)
	}
	return files, api.OK
}
