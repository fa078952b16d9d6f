// Package shelf: shelves: see doc/02-shelf.md.
package shelf

import (
	"slices"

	"weighhouse/api"
	"weighhouse/bounds"
	"weighhouse/copies"
	"weighhouse/plan"
)

// Check: see the chapter.
func Check(p api.Plan, on [][]int) api.Errno {
	if e := plan.Check(p); e != api.OK {
		return e
	}
	badNumber := func(n int) bool { return !bounds.Within(n, 0, api.MaxUnits) }
	badRow := func(row []int) bool {
		return len(row) != len(p.Sizes) || slices.ContainsFunc(row, badNumber)
	}
	if len(on) != len(p.Bins) || slices.ContainsFunc(on, badRow) {
		return api.ErrForm
	}
	return api.OK
}

// Used: see the chapter.
func Used(p api.Plan, on [][]int, bin int) (int, api.Errno) {
	if e := Check(p, on); e != api.OK {
		return 0, e
	}
	if !bounds.Has(len(on), bin) {
		return 0, api.ErrRange
	}
	used := 0
	for good, n := range on[bin] {
		used += n * p.Sizes[good]
	}
	return used, api.OK
}

// Sum: see the chapter.
func Sum(p api.Plan, on [][]int, good int) (int, api.Errno) {
	if e := Check(p, on); e != api.OK {
		return 0, e
	}
	if !bounds.Has(len(p.Sizes), good) {
		return 0, api.ErrRange
	}
	sum := 0
	for _, row := range on {
		sum += row[good]
	}
	return sum, api.OK
}

// Put: see the chapter.
func Put(p api.Plan, on [][]int, bin, good, n int) ([][]int, api.Errno) {
	if e := Check(p, on); e != api.OK {
		return nil, e
	}
	if !bounds.Has(len(on), bin) || !bounds.Has(len(p.Sizes), good) {
		return nil, api.ErrRange
	}
	// n is held against what is left, as the sum of both may wrap round.
	if lies := on[bin][good]; !bounds.Within(n, -lies, api.MaxUnits-lies) {
		return nil, api.ErrRange
	}
	after := copies.Rows(on)
	after[bin][good] += n
	return after, api.OK
}
