package elf

import (
	"portico/api"
	"portico/bytes"
)

const (
	unit      = 4          // addresses, sizes and the entry are multiples of it
	lastEnd   = 0xFFFFFFFC // the greatest address where a segment may end
	writeExec = api.Write | api.Exec
)

// Segments returns a file's entry address, its segments and its Dynamic header,
// if there is one, or Heads' error, or ErrLoad if the program can't be loaded.
func Segments(f []byte) (uint32, []api.Segment, []Header, api.Errno) {
	entry, heads, e := Heads(f)
	if e != api.OK {
		return 0, nil, nil, e
	}
	loads, dynamics := ofKind(heads, Load), ofKind(heads, Dynamic)
	if !areLoadable(loads) || !isEntry(entry, loads) || len(dynamics) > 1 {
		return 0, nil, nil, api.ErrLoad
	}
	var segments []api.Segment
	for _, h := range loads {
		segments = append(segments, segmentOf(f, h))
	}
	return entry, segments, dynamics, api.OK
}

func ofKind(heads []Header, kind int) []Header {
	var l []Header
	for _, h := range heads {
		if h.Kind == kind {
			l = append(l, h)
		}
	}
	return l
}

// areLoadable reports whether the Load headers are not too many, in the order
// of their addresses, apart from each other, and right one by one.
func areLoadable(loads []Header) bool {
	if len(loads) > api.MaxSegments {
		return false
	}
	end := uint32(0) // of the previous range, which doesn't wrap around
	for _, h := range loads {
		if !isLoadable(h) || h.Addr < end {
			return false
		}
		end = h.Addr + h.Mem
	}
	return true
}

func isLoadable(h Header) bool {
	return h.Addr%unit == 0 && h.Mem%unit == 0 && h.Mem != 0 &&
		bytes.Within(h.Addr, h.Mem, 0, lastEnd) &&
		h.Rights != 0 && h.Rights&writeExec != writeExec
}

// isEntry reports whether a program may start at the address entry.
func isEntry(entry uint32, loads []Header) bool {
	if entry%unit != 0 {
		return false
	}
	for _, h := range loads {
		if h.Rights&api.Exec != 0 && bytes.Within(entry, unit, h.Addr, h.Mem) {
			return true
		}
	}
	return false
}

// segmentOf returns the segment of a header whose contents lie in f.
func segmentOf(f []byte, h Header) api.Segment {
	contents, _ := part(f, h.At, h.File)
	// A copy, because the contents of two headers may be the same bytes of f.
	return api.Segment{Addr: h.Addr, Bytes: append([]byte(nil), contents...), Size: h.Mem, Rights: h.Rights}
}
