package alu

import (
	"portico/inst"
)

// Width returns the number of bytes that a load or store accesses, or 0 for any
// other operation.
func Width(op int) int {
	switch op {
	case inst.Lb, inst.Lbu, inst.Sb:
		return 1
	case inst.Lh, inst.Lhu, inst.Sh:
		return 2
	case inst.Lw, inst.Sw:
		return 4
	default:
		return 0
	}
}

// Widen returns what a load makes of x, in whose lowest bits stand the bytes
// that it accessed; it returns x for any operation that isn't a load of fewer
// than 4 bytes.
func Widen(op int, x uint32) uint32 {
	switch op {
	case inst.Lb:
		return uint32(int8(x))
	case inst.Lh:
		return uint32(int16(x))
	case inst.Lbu:
		return uint32(uint8(x))
	case inst.Lhu:
		return uint32(uint16(x))
	default:
		return x
	}
}
