package dyn

import (
	"portico/api"
	"portico/bytes"
)

const (
	typeBits = 8 // the lowest bits of the integer that holds a relocation's type and symbol
	typeMask = 1<<typeBits - 1
)

// A table is taken from the bytes at an address. Its cursor has failed from the
// start if the bytes aren't available.
type table struct {
	*bytes.Cursor
}

// tableAt returns the table of the n bytes at the address start.
func tableAt(segments []api.Segment, start, n uint32) table {
	if n == 0 {
		return table{bytes.At(nil)} // available at every address
	}
	for _, s := range segments {
		if bytes.Within(start, n, s.Addr, uint32(len(s.Bytes))) {
			return table{bytes.At(s.Bytes[start-s.Addr:][:n])}
		}
	}
	return table{}
}

// tags returns the values of the tags up to tag 0, which must follow, and reports
// whether they are there, none of them twice.
func (t table) tags() (map[uint32]uint32, bool) {
	values := map[uint32]uint32{}
	for {
		tag, value := t.U32(), t.U32()
		if t.Bad() {
			return nil, false
		}
		if tag == 0 {
			return values, true
		}
		if _, twice := values[tag]; twice {
			return nil, false
		}
		values[tag] = value
	}
}

// symbol returns the value of the next symbol.
func (t table) symbol() uint32 {
	t.U32() // its name
	value := t.U32()
	t.U32() // its size
	t.U32() // what kind it is, and where it stands
	return value
}

// rela returns the next relocation.
func (t table) rela() api.Rela {
	at, info, add := t.U32(), t.U32(), t.U32()
	return api.Rela{At: at, Type: int(info & typeMask), Sym: int(info >> typeBits), Add: add}
}
