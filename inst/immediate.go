package inst

// ImmI returns the immediate of format I in w.
func ImmI(w uint32) uint32 {
	return signed(part(w, 31, 20), 12)
}

// ImmS returns the immediate of format S in w.
func ImmS(w uint32) uint32 {
	return signed(part(w, 31, 25)<<5|part(w, 11, 7), 12)
}

// ImmB returns the immediate of format B in w.
func ImmB(w uint32) uint32 {
	return signed(part(w, 31, 31)<<12|part(w, 7, 7)<<11|part(w, 30, 25)<<5|part(w, 11, 8)<<1, 13)
}

// ImmU returns the immediate of format U in w.
func ImmU(w uint32) uint32 {
	return part(w, 31, 12) << 12
}

// ImmJ returns the immediate of format J in w.
func ImmJ(w uint32) uint32 {
	return signed(part(w, 31, 31)<<20|part(w, 19, 12)<<12|part(w, 20, 20)<<11|part(w, 30, 21)<<1, 21)
}

// SetI returns w with the lowest 12 bits of x as its immediate of format I.
func SetI(w, x uint32) uint32 {
	return with(w, 31, 20, x)
}

// SetS returns w with the lowest 12 bits of x as its immediate of format S.
func SetS(w, x uint32) uint32 {
	w = with(w, 31, 25, x>>5)
	return with(w, 11, 7, x)
}

// SetB returns w with the lowest 13 bits of x, but for the last, as its
// immediate of format B.
func SetB(w, x uint32) uint32 {
	w = with(w, 31, 31, x>>12)
	w = with(w, 7, 7, x>>11)
	w = with(w, 30, 25, x>>5)
	return with(w, 11, 8, x>>1)
}

// SetU returns w with the highest 20 bits of x as its immediate of format U.
func SetU(w, x uint32) uint32 {
	return with(w, 31, 12, x>>12)
}

// SetJ returns w with the lowest 21 bits of x, but for the last, as its
// immediate of format J.
func SetJ(w, x uint32) uint32 {
	w = with(w, 31, 31, x>>20)
	w = with(w, 19, 12, x>>12)
	w = with(w, 20, 20, x>>11)
	return with(w, 30, 21, x>>1)
}

// immediate returns the immediate of any format in w.
func immediate(w uint32, form int) uint32 {
	switch form {
	case FormU:
		return ImmU(w)
	case FormJ:
		return ImmJ(w)
	case FormI:
		return ImmI(w)
	case FormB:
		return ImmB(w)
	case FormS:
		return ImmS(w)
	case FormT:
		return part(w, 24, 20)
	case FormC, FormZ:
		return part(w, 31, 20)
	default:
		return 0
	}
}

// withImmediate returns w with x as its immediate of any format, as far as it
// fits.
func withImmediate(w uint32, form int, x uint32) uint32 {
	switch form {
	case FormU:
		return SetU(w, x)
	case FormJ:
		return SetJ(w, x)
	case FormI, FormC, FormZ:
		return SetI(w, x)
	case FormB:
		return SetB(w, x)
	case FormS:
		return SetS(w, x)
	case FormT:
		return with(w, 24, 20, x)
	default:
		return w
	}
}

// part returns the bits of w from high down to low.
func part(w uint32, high, low uint) uint32 {
	return w >> low & ones(high-low+1)
}

// with returns w with the bits from high down to low replaced by the lowest ones
// of x.
func with(w uint32, high, low uint, x uint32) uint32 {
	mask := ones(high-low+1) << low
	return w&^mask | x<<low&mask
}

// ones returns n bits that are 1.
func ones(n uint) uint32 {
	return 1<<n - 1
}

// signed returns the lowest n bits of x, extended by the highest of them.
func signed(x uint32, n uint) uint32 {
	unused := 32 - n
	return uint32(int32(x<<unused) >> unused)
}
