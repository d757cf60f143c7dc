package csr

// mppShift is the place of the mode in Mstatus.
const mppShift = 11

// A status is what Mstatus holds: whether interrupts are enabled, whether they
// were ahead of the last trap, and the mode at that time.
type status struct {
	mie  bool
	mpie bool
	mpp  int
}

// Timer sets or clears the pending timer interrupt.
func (f *File) Timer(on bool) {
	if f == nil {
		return
	}
	f.pending = bitsIf(on, BitTimer)
}

// Due reports whether the timer interrupt must be taken now.
func (f *File) Due() bool {
	if f == nil || f.enabled&f.pending == 0 {
		return false
	}
	return f.Mode == User || f.status.mie
}

// Trap enters a trap and returns the address of its handler.
func (f *File) Trap(pc, cause, tval uint32) uint32 {
	if f == nil {
		return 0
	}
	f.epc = aligned(pc)
	f.cause = cause
	f.tval = tval
	f.status = status{mpie: f.status.mie, mpp: stored(f.Mode)}
	f.Mode = Machine
	return f.tvec
}

// Back returns from a trap to the mode ahead of it, and returns the address
// where to go on.
func (f *File) Back() uint32 {
	if f == nil {
		return 0
	}
	f.Mode = f.status.mpp
	f.status = status{mie: f.status.mpie, mpie: true}
	return f.epc
}

// statusOf returns the status that a write of x stores.
func statusOf(x uint32) status {
	return status{
		mie:  x&BitMie != 0,
		mpie: x&BitMpie != 0,
		mpp:  stored(int(x & BitsMpp >> mppShift)),
	}
}

// word returns the status as Mstatus has it.
func (s status) word() uint32 {
	return bitsIf(s.mie, BitMie) | bitsIf(s.mpie, BitMpie) | uint32(s.mpp)<<mppShift
}

// stored returns what a status keeps of a mode: what isn't Machine becomes User,
// so that nobody returns from a trap with more rights.
func stored(mode int) int {
	if mode == Machine {
		return Machine
	}
	return User
}

// bitsIf returns bits if on is true, otherwise 0.
func bitsIf(on bool, bits uint32) uint32 {
	if on {
		return bits
	}
	return 0
}
