// Package plan: plans: see doc/01-plan.md.
package plan

import (
	"slices"

	"weighhouse/api"
	"weighhouse/bins"
	"weighhouse/bounds"
)

// Check: see the chapter.
func Check(p api.Plan) api.Errno {
	if !bounds.Within(len(p.Bins), 1, api.MaxBins) || !bounds.Within(len(p.Sizes), 1, api.MaxGoods) {
		return api.ErrMany
	}
	badBin := func(b api.Bin) bool {
		return !bounds.Within(b.Room, 0, api.MaxRoom) || !bounds.Within(b.Low, 0, b.High) || b.High > api.MaxUnits
	}
	badSize := func(size int) bool { return !bounds.Within(size, 1, api.MaxSize) }
	if slices.ContainsFunc(p.Bins, badBin) || slices.ContainsFunc(p.Sizes, badSize) {
		return api.ErrRange
	}
	return api.OK
}

// Way: see the chapter.
func Way(p api.Plan) ([]int, api.Errno) {
	if e := Check(p); e != api.OK {
		return nil, e
	}
	way := make([]int, 0, len(p.Bins))
	for bin := range bins.Of(p, true) {
		way = append(way, bin)
	}
	for bin := range bins.Of(p, false) {
		way = append(way, bin)
	}
	return way, api.OK
}
