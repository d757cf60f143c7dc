package text

import (
	"math"
	"strings"
)

// blanks are the characters that are ignored around operands.
const blanks = " \t"

// Fields returns the name and the operands of a line.
func Fields(line string) (string, []string) {
	name, rest, more := strings.Cut(strings.Trim(line, blanks), " ")
	if !more {
		return name, nil
	}
	operands := strings.Split(rest, ",")
	for i, s := range operands {
		operands[i] = strings.Trim(s, blanks)
	}
	return name, operands
}

// Base returns the number and the register of an operand of the form Imm(Rs1),
// and whether s has this form.
func Base(s string) (uint32, int, bool) {
	digits, rest, _ := strings.Cut(s, "(")
	name, closed := strings.CutSuffix(rest, ")")
	r := Reg(name)
	if !closed || r < 0 {
		return 0, 0, false
	}
	if digits == "" {
		return 0, r, true
	}
	n, ok := Number(digits)
	if !ok {
		return 0, 0, false
	}
	return n, r, true
}

// Number returns the number that s is, and whether it is one.
func Number(s string) (uint32, bool) {
	digits, negative := strings.CutPrefix(s, "-")
	n, ok := valueOf(digits)
	if !ok {
		return 0, false
	}
	if !negative {
		return n, true
	}
	if n > 1<<31 {
		return 0, false
	}
	return -n, true
}

// valueOf returns the value of digits, in base 16 after 0x and otherwise in base
// 10. It returns false if there are none, other characters, or 2^32 or more.
func valueOf(digits string) (uint32, bool) {
	known := "0123456789"
	if after, ok := strings.CutPrefix(digits, "0x"); ok {
		known, digits = "0123456789abcdef", after
	}
	n := uint64(0)
	for i := range len(digits) {
		d := strings.IndexByte(known, digits[i])
		if d < 0 {
			return 0, false
		}
		// Ends before n could overflow, however many digits there are.
		n = n*uint64(len(known)) + uint64(d)
		if n > math.MaxUint32 {
			return 0, false
		}
	}
	return uint32(n), digits != ""
}
