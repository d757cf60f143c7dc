package sha

import (
	"math/big"
	"testing"
)

func primes(n int) []int64 {
	var l []int64
next:
	for x := int64(2); len(l) < n; x++ {
		for _, p := range l {
			if x%p == 0 {
				continue next
			}
		}
		l = append(l, x)
	}
	return l
}

// isRootFraction reports whether frac is the first 32 bits of the fractional
// part of the root of p of that degree: for some whole part, the number of
// both and no greater one has a power of at most p * 2^(32*degree).
func isRootFraction(frac uint32, p, degree int64) bool {
	limit := new(big.Int).Lsh(big.NewInt(p), uint(32*degree))
	for whole := range p {
		root := new(big.Int).Lsh(big.NewInt(whole), 32)
		root.Add(root, big.NewInt(int64(frac)))
		above := new(big.Int).Add(root, big.NewInt(1))
		e := big.NewInt(degree)
		if root.Exp(root, e, nil).Cmp(limit) <= 0 && above.Exp(above, e, nil).Cmp(limit) > 0 {
			return true
		}
	}
	return false
}

func TestTables(t *testing.T) {
	for i, p := range primes(len(initial)) {
		if !isRootFraction(initial[i], p, 2) {
			t.Errorf("word %d of the initial state is wrong", i)
		}
	}
	for i, p := range primes(len(roundConstants)) {
		if !isRootFraction(roundConstants[i], p, 3) {
			t.Errorf("K(%d) is wrong", i)
		}
	}
}
