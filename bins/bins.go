// Package bins goes through bins, and tells what they will have.
package bins

import (
	"iter"

	"weighhouse/api"
)

// Of goes through the bins that are in front, or through those that are not, rising.
func Of(p api.Plan, front bool) iter.Seq[int] {
	return func(yield func(int) bool) {
		for bin, b := range p.Bins {
			if b.Front == front && !yield(bin) {
				return
			}
		}
	}
}

// Lying is how many pieces of a good lie in a bin, with those that are to move there. The state must be a right one that has them.
func Lying(s api.State, bin, good int) int {
	n := s.On[bin][good]
	for _, m := range s.Moves {
		if m.To == bin && m.Good == good {
			n += m.N
		}
	}
	return n
}
