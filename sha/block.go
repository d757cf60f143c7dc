package sha

import "math/bits"

// compress returns the state after one more block.
func compress(state [8]uint32, block [blockSize]byte) [8]uint32 {
	words := schedule(block)
	a, b, c, d := state[0], state[1], state[2], state[3]
	e, f, g, h := state[4], state[5], state[6], state[7]
	for i := range words {
		t := h + mix(e, 6, 11, 25) + ((e & f) ^ (^e & g)) + roundConstants[i] + words[i]
		u := mix(a, 2, 13, 22) + ((a & b) ^ (a & c) ^ (b & c))
		h, g, f, e, d, c, b, a = g, f, e, d+t, c, b, a, t+u
	}
	for i, x := range [8]uint32{a, b, c, d, e, f, g, h} {
		state[i] += x
	}
	return state
}

// schedule returns words 0 to 63 of a block.
func schedule(block [blockSize]byte) [64]uint32 {
	var w [64]uint32
	for i := range 16 {
		w[i] = uint32(block[4*i])<<24 | uint32(block[4*i+1])<<16 |
			uint32(block[4*i+2])<<8 | uint32(block[4*i+3])
	}
	for i := 16; i < len(w); i++ {
		w[i] = w[i-16] + w[i-7] + mixShifted(w[i-15], 7, 18, 3) + mixShifted(w[i-2], 17, 19, 10)
	}
	return w
}

// mix is x>i xor x>j xor x>k, in the chapter's notation.
func mix(x uint32, i, j, k int) uint32 {
	return rotateRight(x, i) ^ rotateRight(x, j) ^ rotateRight(x, k)
}

// mixShifted is x>i xor x>j xor x/k, in the chapter's notation.
func mixShifted(x uint32, i, j, k int) uint32 {
	return rotateRight(x, i) ^ rotateRight(x, j) ^ (x >> k)
}

func rotateRight(x uint32, n int) uint32 {
	return bits.RotateLeft32(x, -n)
}
