package elf_test

import (
	"bytes"
	"encoding/binary"
	"reflect"
	"slices"
	"testing"

	"portico/api"
	"portico/elf"
)

// A head is a program header as it is written: eight integers.
type head [8]uint32

// The integers of a head.
const (
	kind = iota
	at
	addr
	anything
	file
	mem
	flags
	align
)

// Where the integers of the file header stand.
const (
	typeAt     = 16
	machineAt  = 18
	versionAt  = 20
	entryAt    = 24
	tableAt    = 28
	anythingAt = 32
	flagsAt    = 36
	sizeAt     = 40
	headSizeAt = 42
	countAt    = 44
	lastAt     = 46
	headsAt    = 52
)

// A draft is what a file is written from.
type draft struct {
	entry    uint32
	heads    []head
	contents []byte // behind the headers
}

// load returns a Load header whose contents are the first size bytes behind
// count headers.
func load(count int, address, size, flags uint32) head {
	return head{elf.Load, contentsAt(count), address, 0, size, size, flags, 4}
}

func contentsAt(count int) uint32 {
	return uint32(headsAt + 32*count)
}

func (d draft) bytes() []byte {
	b := []byte{0x7F, 'E', 'L', 'F', 1, 1, 1, 0, 0, 0, 0, 0, 0, 0, 0, 0, 3, 0, 243, 0, 1, 0, 0, 0}
	for _, x := range []uint32{d.entry, headsAt, 0, 0} {
		b = binary.LittleEndian.AppendUint32(b, x)
	}
	for _, x := range []int{headsAt, 32, len(d.heads), 40, 0, 0} {
		b = binary.LittleEndian.AppendUint16(b, uint16(x))
	}
	for _, h := range d.heads {
		for _, x := range h {
			b = binary.LittleEndian.AppendUint32(b, x)
		}
	}
	return append(b, d.contents...)
}

// with returns the draft with another integer in one of its headers.
func (d draft) with(header, field int, x uint32) draft {
	d.heads = slices.Clone(d.heads)
	d.heads[header][field] = x
	return d
}

// withEntry returns the draft with another entry address.
func (d draft) withEntry(entry uint32) draft {
	d.entry = entry
	return d
}

// someDraft returns a draft of a good file: code, a Dynamic header, and data.
func someDraft() draft {
	contents := make([]byte, 40)
	for i := range contents {
		contents[i] = byte(3*i + 1)
	}
	return draft{
		entry: 0x1004,
		heads: []head{
			{elf.Load, 148, 0x1000, 0x1000, 16, 32, 5, 4},
			{elf.Dynamic, 180, 0x2010, 0x2010, 8, 8, 4, 4},
			{elf.Load, 164, 0x2000, 0x2000, 24, 24, 6, 4},
		},
		contents: contents,
	}
}

// only returns the draft of a file with one Load header, of code, and one word.
func only() draft {
	return draft{heads: []head{load(1, 0, 4, 5)}, contents: []byte{0x13, 0, 0, 0}}
}

// patched returns b with other bytes from at on.
func patched(b []byte, at int, others ...byte) []byte {
	b = bytes.Clone(b)
	copy(b[at:], others)
	return b
}

func little16(x int) []byte {
	return binary.LittleEndian.AppendUint16(nil, uint16(x))
}

func little32(x uint32) []byte {
	return binary.LittleEndian.AppendUint32(nil, x)
}

// A reading is all that Heads and Segments say of a file.
type reading struct {
	entry     uint32
	heads     []elf.Header
	headsErr  api.Errno
	start     uint32
	segments  []api.Segment
	dynamic   []elf.Header
	segsError api.Errno
}

func read(f []byte) (r reading) {
	r.entry, r.heads, r.headsErr = elf.Heads(f)
	r.start, r.segments, r.dynamic, r.segsError = elf.Segments(f)
	return r.plain()
}

// plain returns a reading in which empty slices are nil.
func (r reading) plain() reading {
	if len(r.heads) == 0 {
		r.heads = nil
	}
	if len(r.dynamic) == 0 {
		r.dynamic = nil
	}
	if len(r.segments) == 0 {
		r.segments = nil
	}
	for i, s := range r.segments {
		if len(s.Bytes) == 0 {
			r.segments[i].Bytes = nil
		}
	}
	return r
}

// readSlowly reads a file as the chapter tells it, with integers of 64 bits.
func readSlowly(f []byte) reading {
	entry, heads, ok := headsSlowly(f)
	if !ok {
		return reading{headsErr: api.ErrElf, segsError: api.ErrElf}
	}
	r := reading{entry: entry, heads: heads}
	for _, h := range heads {
		if h.Kind == 2 {
			r.dynamic = append(r.dynamic, h)
			continue
		}
		contents := bytes.Clone(f[h.At : int64(h.At)+int64(h.File)])
		r.segments = append(r.segments, api.Segment{Addr: h.Addr, Bytes: contents, Size: h.Mem, Rights: h.Rights})
	}
	if !loadSlowly(int64(entry), r.segments) || len(r.dynamic) > 1 {
		return reading{entry: entry, heads: heads, segsError: api.ErrLoad}
	}
	r.start = entry
	return r.plain()
}

func headsSlowly(f []byte) (uint32, []elf.Header, bool) {
	if len(f) < 52 {
		return 0, nil, false
	}
	number := func(at int64) uint32 { return binary.LittleEndian.Uint32(f[at:]) }
	entry, table, count := number(24), int64(number(28)), int64(f[44])+256*int64(f[45])
	same := bytes.Clone(f[:52])
	clear(same[24:36])
	clear(same[44:])
	if string(same) != "\x7fELF\x01\x01\x01\x00\x00\x00\x00\x00\x00\x00\x00\x00\x03\x00\xf3\x00\x01\x00\x00\x00"+
		"\x00\x00\x00\x00\x00\x00\x00\x00\x00\x00\x00\x00\x00\x00\x00\x00\x34\x00\x20\x00\x00\x00\x00\x00\x00\x00\x00\x00" {
		return 0, nil, false
	}
	if count == 0 || count > 5 || table+32*count > int64(len(f)) {
		return 0, nil, false
	}
	var heads []elf.Header
	for a := table; a < table+32*count; a += 32 {
		h := elf.Header{At: number(a + 4), Addr: number(a + 8), File: number(a + 16), Mem: number(a + 20)}
		if number(a) < 1 || number(a) > 2 || number(a+24) > 7 || int64(h.At)+int64(h.File) > int64(len(f)) || h.File > h.Mem {
			return 0, nil, false
		}
		h.Kind, h.Rights = int(number(a)), []int{0, 4, 2, 6, 1, 5, 3, 7}[number(a+24)]
		heads = append(heads, h)
	}
	return entry, heads, true
}

func loadSlowly(entry int64, segments []api.Segment) bool {
	found := false
	for i, s := range segments {
		start, end := int64(s.Addr), int64(s.Addr)+int64(s.Size)
		if start&3 != 0 || end&3 != 0 || start == end || end > 0xFFFFFFFC || i == 4 {
			return false
		}
		if !slices.Contains([]int{1, 2, 3, 4, 5}, s.Rights) {
			return false
		}
		if i > 0 && start < int64(segments[i-1].Addr)+int64(segments[i-1].Size) {
			return false
		}
		found = found || s.Rights >= 4 && entry >= start && entry <= end-4 && entry&3 == 0
	}
	return found
}

// expect checks all that Heads and Segments say of f, whose error should be want.
func expect(t *testing.T, want api.Errno, f []byte, what string) {
	t.Helper()
	slow := readSlowly(f)
	if slow.segsError != want {
		t.Errorf("%s: the slow reading's error is %d, want %d", what, slow.segsError, want)
	}
	if got := read(f); !reflect.DeepEqual(got, slow) {
		t.Errorf("%s:\ngot  %+v\nwant %+v\nfile %X", what, got, slow, f)
	}
}
