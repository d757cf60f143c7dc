package alu_test

import (
	"math"
	"math/big"
	"math/rand"
	"testing"

	"portico/inst"
)

// An operand is a 32-bit integer as numbers without bounds: as it is, and in
// two's complement.
type operand struct {
	plain, signed *big.Int
}

func operandOf(x uint32) operand {
	o := operand{plain: big.NewInt(int64(x)), signed: big.NewInt(int64(x))}
	if x >= 1<<31 {
		o.signed.Sub(o.signed, power(32))
	}
	return o
}

func power(n uint) *big.Int {
	return new(big.Int).Lsh(big.NewInt(1), n)
}

// word returns x modulo 2^32.
func word(x *big.Int) uint32 {
	return uint32(new(big.Int).Mod(x, power(32)).Uint64())
}

// floor returns x divided by 2^n, rounded down.
func floor(x *big.Int, n uint) *big.Int {
	return new(big.Int).Div(x, power(n))
}

// lowest returns the lowest 5 bits of b.
func lowest(b operand) uint {
	return uint(new(big.Int).Mod(b.plain, big.NewInt(32)).Uint64())
}

// truth is 1 if x is less than y.
func truth(x, y *big.Int) *big.Int {
	if x.Cmp(y) < 0 {
		return big.NewInt(1)
	}
	return big.NewInt(0)
}

// bitwise puts together what join makes of each pair of bits.
func bitwise(a, b operand, join func(x, y uint) bool) *big.Int {
	sum := new(big.Int)
	for i := range 32 {
		if join(a.plain.Bit(i), b.plain.Bit(i)) {
			sum.Add(sum, power(uint(i)))
		}
	}
	return sum
}

// An arithmetic operation is its numbers (with and without an immediate), and
// what it answers, before that is taken modulo 2^32.
type arithmetic struct {
	name   string
	ops    []int
	answer func(a, b operand) *big.Int
}

// arithmetics is the chapter's list.
func arithmetics() []arithmetic {
	return append(simple(), products()...)
}

func simple() []arithmetic {
	return []arithmetic{
		{"Add", []int{inst.Add, inst.Addi}, func(a, b operand) *big.Int { return new(big.Int).Add(a.plain, b.plain) }},
		{"Sub", []int{inst.Sub}, func(a, b operand) *big.Int { return new(big.Int).Sub(a.plain, b.plain) }},
		{"Sll", []int{inst.Sll, inst.Slli}, func(a, b operand) *big.Int { return new(big.Int).Mul(a.plain, power(lowest(b))) }},
		{"Srl", []int{inst.Srl, inst.Srli}, func(a, b operand) *big.Int { return floor(a.plain, lowest(b)) }},
		{"Sra", []int{inst.Sra, inst.Srai}, func(a, b operand) *big.Int { return floor(a.signed, lowest(b)) }},
		{"Slt", []int{inst.Slt, inst.Slti}, func(a, b operand) *big.Int { return truth(a.signed, b.signed) }},
		{"Sltu", []int{inst.Sltu, inst.Sltiu}, func(a, b operand) *big.Int { return truth(a.plain, b.plain) }},
		{"Xor", []int{inst.Xor, inst.Xori}, func(a, b operand) *big.Int {
			return bitwise(a, b, func(x, y uint) bool { return x+y == 1 })
		}},
		{"Or", []int{inst.Or, inst.Ori}, func(a, b operand) *big.Int {
			return bitwise(a, b, func(x, y uint) bool { return x+y > 0 })
		}},
		{"And", []int{inst.And, inst.Andi}, func(a, b operand) *big.Int {
			return bitwise(a, b, func(x, y uint) bool { return x+y == 2 })
		}},
	}
}

func products() []arithmetic {
	product := func(x, y *big.Int) *big.Int { return new(big.Int).Mul(x, y) }
	return []arithmetic{
		{"Mul", []int{inst.Mul}, func(a, b operand) *big.Int { return product(a.plain, b.plain) }},
		{"Mulh", []int{inst.Mulh}, func(a, b operand) *big.Int { return floor(product(a.signed, b.signed), 32) }},
		{"Mulhsu", []int{inst.Mulhsu}, func(a, b operand) *big.Int { return floor(product(a.signed, b.plain), 32) }},
		{"Mulhu", []int{inst.Mulhu}, func(a, b operand) *big.Int { return floor(product(a.plain, b.plain), 32) }},
		{"Div", []int{inst.Div}, func(a, b operand) *big.Int { return quotient(a.signed, b.signed) }},
		{"Rem", []int{inst.Rem}, func(a, b operand) *big.Int { return remainder(a.signed, b.signed) }},
		{"Divu", []int{inst.Divu}, func(a, b operand) *big.Int { return quotient(a.plain, b.plain) }},
		{"Remu", []int{inst.Remu}, func(a, b operand) *big.Int { return remainder(a.plain, b.plain) }},
	}
}

// quotient divides the amounts, and takes the sign from both numbers; by 0 it
// is 2^32 - 1.
func quotient(x, y *big.Int) *big.Int {
	if y.Sign() == 0 {
		return new(big.Int).Sub(power(32), big.NewInt(1))
	}
	q := new(big.Int).Div(new(big.Int).Abs(x), new(big.Int).Abs(y))
	if x.Sign()*y.Sign() < 0 {
		q.Neg(q)
	}
	return q
}

// remainder is what the quotient leaves; by 0 it is x.
func remainder(x, y *big.Int) *big.Int {
	if y.Sign() == 0 {
		return x
	}
	return new(big.Int).Sub(x, new(big.Int).Mul(y, quotient(x, y)))
}

// A branch is its number, and when it is taken.
type branch struct {
	name string
	op   int
	goes func(a, b operand) bool
}

func branches() []branch {
	return []branch{
		{"Beq", inst.Beq, func(a, b operand) bool { return a.plain.Cmp(b.plain) == 0 }},
		{"Bne", inst.Bne, func(a, b operand) bool { return a.plain.Cmp(b.plain) != 0 }},
		{"Blt", inst.Blt, func(a, b operand) bool { return a.signed.Cmp(b.signed) < 0 }},
		{"Bge", inst.Bge, func(a, b operand) bool { return a.signed.Cmp(b.signed) >= 0 }},
		{"Bltu", inst.Bltu, func(a, b operand) bool { return a.plain.Cmp(b.plain) < 0 }},
		{"Bgeu", inst.Bgeu, func(a, b operand) bool { return a.plain.Cmp(b.plain) >= 0 }},
	}
}

// edges are the numbers around which something changes.
func edges() []uint32 {
	var l []uint32
	for _, middle := range []uint32{0, 1 << 7, 1 << 8, 1 << 11, 1 << 15, 1 << 16, 1 << 30, 1 << 31, 3 << 30} {
		for d := uint32(0); d < 5; d++ {
			l = append(l, middle+d-2, -middle+d-2)
		}
	}
	for i := range 32 {
		l = append(l, 1<<i, uint32(1)<<i-1, ^(uint32(1) << i), uint32(i), -uint32(i))
	}
	return append(l, 0x12345678, 0x89ABCDEF, 0x55555555, 0xAAAAAAAA, 31, 32, 33, 63, 64)
}

// pairs calls f with every pair of edges, and with random numbers of all sizes.
func pairs(t *testing.T, f func(a, b uint32)) {
	t.Helper()
	for _, a := range edges() {
		for _, b := range edges() {
			f(a, b)
		}
	}
	r := rand.New(rand.NewSource(14))
	for range 20000 {
		f(sized(r), sized(r))
	}
}

// sized returns a random number of a random number of bits, or what is that far
// below 2^32.
func sized(r *rand.Rand) uint32 {
	x := r.Uint32() >> r.Intn(32)
	if r.Intn(2) == 0 {
		return -x
	}
	return x
}

// every returns integers that are operations, and many that aren't.
func every() []int {
	l := []int{math.MinInt, math.MinInt + 1, math.MaxInt, math.MaxInt - 1}
	for op := -300; op <= 300; op++ {
		l = append(l, op)
	}
	for _, far := range []int{1 << 8, 1 << 16, 1 << 31, 1 << 32, 1 << 40, -1 << 63} {
		for op := range inst.Ops {
			l = append(l, far+op, -far+op)
		}
	}
	return l
}
