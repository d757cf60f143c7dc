package csr

import (
	"slices"

	"portico/api"
	"portico/pmp"
)

const (
	configsInWord = 4      // entries whose configuration bytes one register holds
	bitLock       = 1 << 7 // of a configuration byte
)

// Entries returns all protection entries.
func (f *File) Entries() []api.Entry {
	if f == nil {
		return nil
	}
	return slices.Clone(f.entries[:])
}

// Protect sets the first entries to l and the others to 0. It unlocks all of
// them. It returns ErrArg if there aren't as many entries.
func (f *File) Protect(l []api.Entry) api.Errno {
	if f == nil || len(l) > api.PmpEntries {
		return api.ErrArg
	}
	f.entries = [api.PmpEntries]api.Entry{}
	f.locked = [api.PmpEntries]bool{}
	for i, e := range l {
		f.entries[i] = pmp.Of(pmp.Byte(e), e.Addr)
	}
	return api.OK
}

// May1 reports whether the n bytes from at on may be accessed in the current
// mode with all rights in right.
func (f *File) May1(at uint32, n, right int) bool {
	if f == nil || n < 1 {
		return false
	}
	if f.Mode != Machine {
		return pmp.Check(f.entries[:], at, n, right)
	}
	return f.machineMay(uint64(at), uint64(at)+uint64(n), right)
}

// machineMay reports whether Machine mode may access the bytes from one address
// up to another: unlike User mode it doesn't need an entry, and only a locked
// one restrains it in its rights.
func (f *File) machineMay(from, to uint64, right int) bool {
	for i, e := range f.entries {
		start, end := pmp.Range(f.entries[:], i)
		if max(start, from) < min(end, to) {
			return start <= from && to <= end && (!f.locked[i] || e.Rights&right == right)
		}
	}
	return true
}

// configs returns configuration register i.
func (f *File) configs(i uint32) uint32 {
	x := uint32(0)
	for k := range uint32(configsInWord) {
		x |= uint32(f.config(configsInWord*i+k)) << (8 * k)
	}
	return x
}

// config returns the configuration byte of entry i.
func (f *File) config(i uint32) byte {
	return pmp.Byte(f.entries[i]) | byte(bitsIf(f.locked[i], bitLock))
}

// setConfigs writes configuration register i.
func (f *File) setConfigs(i, x uint32) {
	for k := range uint32(configsInWord) {
		f.setConfig(configsInWord*i+k, byte(x>>(8*k)))
	}
}

// setConfig writes the configuration byte of entry i, unless it is locked. The
// right to write but not to read is reserved, so it is stored as none.
func (f *File) setConfig(i uint32, b byte) {
	if f.locked[i] {
		return
	}
	if b&(api.Read|api.Write) == api.Write {
		b &^= api.Write
	}
	f.entries[i] = pmp.Of(b, f.entries[i].Addr)
	f.locked[i] = b&bitLock != 0
}

// setAddress writes the address of entry i, unless it is locked, or the next
// entry is, and begins at this address.
func (f *File) setAddress(i, x uint32) {
	if f.locked[i] || f.beginsLocked(i+1) {
		return
	}
	f.entries[i].Addr = x
}

// beginsLocked reports whether there is an entry i, and the address ahead of it
// is locked with it.
func (f *File) beginsLocked(i uint32) bool {
	return i < api.PmpEntries && f.locked[i] && f.entries[i].Way == api.Tor
}
