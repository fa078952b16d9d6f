// Package holds: holds: see doc/03-holds.md.
package holds

import (
	"cmp"
	"slices"

	"weighhouse/api"
	"weighhouse/bounds"
)

// Check: see the chapter.
func Check(l []api.Hold) api.Errno {
	wrong := func(i int) bool {
		return !rightAlone(l[i]) || i > 0 && compare(l[i-1], l[i]) >= 0
	}
	for i := range l {
		if wrong(i) {
			return api.ErrForm
		}
	}
	return api.OK
}

// Add: see the chapter.
func Add(l []api.Hold, h api.Hold) ([]api.Hold, api.Errno) {
	if e := Check(l); e != api.OK {
		return nil, e
	}
	if !rightAlone(h) {
		return nil, api.ErrForm
	}
	i, found := slices.BinarySearchFunc(l, h, compare)
	if !found {
		return slices.Concat(l[:i], []api.Hold{h}, l[i:]), api.OK
	}
	h.N += l[i].N
	if h.N > api.MaxUnits {
		return nil, api.ErrRange
	}
	return slices.Concat(l[:i], []api.Hold{h}, l[i+1:]), api.OK
}

// Drop: see the chapter.
func Drop(l []api.Hold, order, line, bin int) ([]api.Hold, int, api.Errno) {
	if e := Check(l); e != api.OK {
		return nil, 0, e
	}
	i, found := slices.BinarySearchFunc(l, api.Hold{Order: order, Line: line, Bin: bin}, compare)
	if !found {
		return nil, 0, api.ErrNone
	}
	return slices.Concat(l[:i], l[i+1:]), l[i].N, api.OK
}

// Kept: see the chapter.
func Kept(l []api.Hold, order, line int) (int, api.Errno) {
	if e := Check(l); e != api.OK {
		return 0, e
	}
	kept := 0
	for _, h := range l {
		if h.Order == order && h.Line == line {
			kept += h.N
		}
	}
	return kept, api.OK
}

// rightAlone tells whether a hold is right, whichever others there are.
func rightAlone(h api.Hold) bool {
	return bounds.Has(api.MaxOrders, h.Order) && bounds.Has(api.MaxLines, h.Line) &&
		bounds.Has(api.MaxBins, h.Bin) && bounds.Within(h.N, 1, api.MaxUnits)
}

// compare leaves N out: two holds of one line and bin are one.
func compare(a, b api.Hold) int {
	return cmp.Or(cmp.Compare(a.Order, b.Order), cmp.Compare(a.Line, b.Line), cmp.Compare(a.Bin, b.Bin))
}
