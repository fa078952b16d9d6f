package promises

import (
	"slices"
	"testing"

	"weighhouse/alloc"
	"weighhouse/api"
	"weighhouse/book"
	"weighhouse/copies"
)

// askCount: what comes is what the chapter says, piece by piece; who sees as much as is held there changes nobody's holds.
func askCount(t *testing.T, p api.Plan, before, after api.State, e api.Errno, bin, good, seen int) {
	want := pieceByPiece(p, before, bin, good, seen)
	if e != api.OK || !same(after, want) {
		t.Fatalf("Count of %d of %d in %d of\n%v is\n%v %d, must be\n%v", seen, good, bin, before, after, e, want)
	}
	if _, held := promised(before, bin, good); seen >= held && !slices.Equal(before.Holds, after.Holds) {
		t.Fatalf("%d are held, %d are seen: %v were held, and %v are", held, seen, before.Holds, after.Holds)
	}
}

// same tells whether two states have the same numbers; a list without elements may be nil or not.
func same(a, b api.State) bool {
	equal := func(a, b *int) bool { return *a == *b }
	return len(a.Holds) == len(b.Holds) && len(a.Moves) == len(b.Moves) && slices.EqualFunc(numbers(a, false), numbers(b, false), equal)
}

// promised is how many pieces of a good are to move from a bin, and how many are held there.
func promised(s api.State, bin, good int) (moving, held int) {
	for _, m := range s.Moves {
		if m.From == bin && m.Good == good {
			moving += m.N
		}
	}
	for _, h := range s.Holds {
		if h.Bin == bin && s.Orders[h.Order].Lines[h.Line].Good == good {
			held += h.N
		}
	}
	return moving, held
}

// pieceByPiece is Count by the chapter's own words.
func pieceByPiece(p api.Plan, s api.State, bin, good, seen int) api.State {
	s = copies.State(s)
	s.Fixed[good] += seen - s.On[bin][good]
	s.On[bin][good] = seen
	var cut [api.MaxOrders][api.MaxLines]int
	for {
		moving, held := promised(s, bin, good)
		if moving+held <= seen {
			break
		}
		if moving > 0 {
			s.Moves = oneLess(s.Moves, func(m api.Move) bool { return m.From == bin && m.Good == good }, func(m *api.Move) *int { return &m.N })
			continue
		}
		there := func(h api.Hold) bool { return h.Bin == bin && s.Orders[h.Order].Lines[h.Line].Good == good }
		s.Holds = oneLess(s.Holds, there, func(h *api.Hold) *int {
			cut[h.Order][h.Line]++
			s.Orders[h.Order].Lines[h.Line].Back++
			return &h.N
		})
	}
	for order := range cut {
		for line, n := range cut[order] {
			if n > 0 {
				s, _, _ = alloc.Take(p, s, order, line, n, bin)
			}
		}
	}
	return s
}

// oneLess takes a piece off the last one of those that are meant, which is gone if it has none.
func oneLess[T any](l []T, meant func(T) bool, pieces func(*T) *int) []T {
	for i := len(l) - 1; i >= 0; i-- {
		if !meant(l[i]) {
			continue
		}
		n := pieces(&l[i])
		if *n--; *n == 0 {
			return slices.Delete(l, i, i+1)
		}
		return l
	}
	return l
}

// askBook: nothing is lost, no piece is held twice, and whatever a line wants is held, lacked or got.
func askBook(t *testing.T, p api.Plan, s api.State) {
	l, e := book.Totals(p, s)
	n, f := book.Open(p, s)
	if e != api.OK || f != api.OK || len(l) != len(p.Sizes) {
		t.Fatalf("of %v Totals is %v %d, Open %d %d", s, l, e, n, f)
	}
	wanted := make([]int, len(p.Sizes))
	for _, o := range s.Orders {
		if o.Kind != api.Closed {
			n--
		}
		for _, x := range o.Lines {
			if o.Kind != api.Entered {
				wanted[x.Good] += x.Want
			}
		}
	}
	for good, x := range l {
		if x.On != s.In[good]-s.Out[good]+s.Fixed[good] || x.Held > x.On || x.Held+x.Back+x.Got != wanted[good] {
			t.Fatalf("of %v Totals is %v, and %v are wanted", s, l, wanted)
		}
	}
	if n != 0 {
		t.Fatalf("of %v Open is wrong by %d", s, n)
	}
}
