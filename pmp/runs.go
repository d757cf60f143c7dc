package pmp

import (
	"slices"

	"portico/api"
)

// A Run is a range of addresses, up to but not including To, with the same
// rights.
type Run struct {
	From, To uint64
	Rights   int
}

// Runs returns the ranges of addresses in which user mode may access each single
// byte, in ascending order.
func Runs(l []api.Entry) []Run {
	var runs []Run
	from := uint64(0)
	for _, to := range ends(l) {
		if rights := rightsAt(l, from); rights != 0 {
			runs = extend(runs, Run{From: from, To: to, Rights: rights})
		}
		from = to
	}
	return runs
}

// ends returns the addresses where another entry may begin to decide, in
// ascending order, without 0, and at last the one after all addresses.
func ends(l []api.Entry) []uint64 {
	list := []uint64{addressEnd}
	for i := range l {
		start, end := Range(l, i)
		for _, at := range []uint64{start, end} {
			if at > 0 && at < addressEnd {
				list = append(list, at)
			}
		}
	}
	slices.Sort(list)
	return slices.Compact(list)
}

// rightsAt returns the rights of the first entry that matches the byte at an
// address.
func rightsAt(l []api.Entry, at uint64) int {
	for i, e := range l {
		if start, end := Range(l, i); at >= start && at < end {
			return e.Rights
		}
	}
	return 0
}

// extend returns runs followed by r, as a part of the last run if r continues it.
func extend(runs []Run, r Run) []Run {
	if n := len(runs); n > 0 && runs[n-1].To == r.From && runs[n-1].Rights == r.Rights {
		runs[n-1].To = r.To
		return runs
	}
	return append(runs, r)
}
