package pmp

import (
	"portico/api"
)

// Plan returns entries that permit exactly what the grants say.
func Plan(l []api.Grant) ([]api.Entry, api.Errno) {
	for _, g := range l {
		if !valid(g) {
			return nil, api.ErrArg
		}
	}
	var plan []api.Entry
	for _, g := range l {
		plan = append(plan, permit(g)...)
	}
	// An entry without rights for all addresses, so that nothing else is permitted.
	plan = append(plan, napot(0, addressEnd, 0))
	if len(plan) > api.PmpEntries {
		return nil, api.ErrPlan
	}
	return plan, api.OK
}

// valid reports whether entries can permit exactly g.
func valid(g api.Grant) bool {
	return g.Start%wordSize == 0 && g.Size%wordSize == 0 && g.Size != 0 &&
		end(g) <= addressEnd &&
		g.Rights >= 1 && g.Rights <= api.Read+api.Write+api.Exec
}

// permit returns the entries for one grant.
func permit(g api.Grant) []api.Entry {
	first := g.Start / wordSize
	switch {
	case g.Size == wordSize:
		return []api.Entry{{Way: api.Na4, Rights: g.Rights, Addr: first}}
	case g.Size&(g.Size-1) == 0 && g.Start%g.Size == 0:
		return []api.Entry{napot(g.Start, uint64(g.Size), g.Rights)}
	default:
		// A Tor entry begins where the one before it points to.
		return []api.Entry{
			{Way: api.Off, Addr: first},
			{Way: api.Tor, Rights: g.Rights, Addr: uint32(end(g) / wordSize)},
		}
	}
}

// napot returns the Napot entry for a size that is a power of two, from 8 on, and
// a start that is a multiple of it.
func napot(start uint32, size uint64, rights int) api.Entry {
	ones := uint32(size/napotSize - 1)
	return api.Entry{Way: api.Napot, Rights: rights, Addr: start/wordSize | ones}
}

// end returns the address after a grant; it may be above the greatest one of 32
// bits, and doesn't wrap around.
func end(g api.Grant) uint64 {
	return uint64(g.Start) + uint64(g.Size)
}
