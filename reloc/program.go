package reloc

import (
	"portico/api"
	"portico/bytes"
	"portico/place"
)

// A program is a file and where it was loaded.
type program struct {
	file  api.File
	bias  uint32
	spans []place.Span
}

// address returns the address of a relocation.
func (p program) address(r api.Rela) uint32 {
	return p.bias + r.At
}

// valid reports whether a relocation is valid.
func (p program) valid(r api.Rela) bool {
	n := changed(r.Type)
	if n == 0 || !p.inSpan(p.address(r), n) {
		return false
	}
	switch r.Type {
	case Word:
		return true
	case Relative:
		return r.Sym == 0
	default:
		return p.address(r)%4 == 0
	}
}

// changed returns the number of bytes that a relocation of this type changes, or
// 0 if there is no such type.
func changed(kind int) uint32 {
	switch kind {
	case Word, Relative, Branch, Jal, PcHi, PcLoI, PcLoS, Hi, LoI, LoS:
		return 4
	case Call, CallPlt:
		return 8
	default:
		return 0
	}
}

// inSpan reports whether the n bytes from at on lie in a single span.
func (p program) inSpan(at, n uint32) bool {
	for _, s := range p.spans {
		if bytes.Within(at, n, s.Start, s.Size) {
			return true
		}
	}
	return false
}

// value returns the number that a relocation puts into memory. It returns
// ErrRange if the number is out of the type's range, and ErrRel if it is that of
// another relocation, which doesn't exist.
func (p program) value(r api.Rela) (uint32, api.Errno) {
	switch r.Type {
	case Relative:
		return p.bias + r.Add, api.OK
	case Word, Hi, LoI, LoS:
		return p.target(r), api.OK
	case PcLoI, PcLoS:
		return p.pairValue(r)
	}
	v := p.distance(r)
	if r.Type == Branch && !reaches(v, 1<<12) || r.Type == Jal && !reaches(v, 1<<20) {
		return 0, api.ErrRange
	}
	return v, api.OK
}

// target returns the address that a relocation refers to: its symbol's, plus its
// addend.
func (p program) target(r api.Rela) uint32 {
	if r.Sym <= 0 || r.Sym >= len(p.file.Symbols) {
		return r.Add
	}
	return p.file.Symbols[r.Sym] + p.bias + r.Add
}

// distance returns how far a relocation's target is from its own address.
func (p program) distance(r api.Rela) uint32 {
	return p.target(r) - p.address(r)
}

// pairValue returns the value of the PcHi relocation at a relocation's target,
// whose lower part belongs here.
func (p program) pairValue(r api.Rela) (uint32, api.Errno) {
	if r.Add != 0 {
		return 0, api.ErrRel
	}
	for _, hi := range p.file.Relas {
		if hi.Type == PcHi && p.address(hi) == p.target(r) {
			return p.distance(hi), api.OK
		}
	}
	return 0, api.ErrRel
}

// reaches reports whether an instruction whose immediate is even and signed, from
// -limit to limit - 2, can have v as its immediate.
func reaches(v uint32, limit int32) bool {
	x := int32(v)
	return x%2 == 0 && -limit <= x && x < limit
}
