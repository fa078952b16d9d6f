package promises

import (
	"reflect"
	"slices"
	"testing"

	"weighhouse/api"
	"weighhouse/bins"
	"weighhouse/count"
	"weighhouse/fill"
	"weighhouse/holds"
	"weighhouse/pick"
	"weighhouse/recv"
	"weighhouse/state"
	"weighhouse/wave"
)

// draw gives numbers for long walks, the same ones each time.
type draw uint64

// below is a number from 0 to n - 1.
func (d *draw) below(n int) int {
	*d = *d*6364136223846793005 + 1442695040888963407
	return int(uint64(*d) >> 33 % uint64(n))
}

// yard has little room in front, so that filling comes to its end by each of its reasons.
func yard() api.Plan {
	return api.Plan{
		Bins: []api.Bin{
			{Room: 80}, {Front: true, Room: 25, Low: 5, High: 9}, {Room: 60}, {Front: true, Room: 12, Low: 3, High: 6}, {Room: 50},
		},
		Sizes: []int{1, 3},
	}
}

// step does one act, which the draw chooses, and holds what comes to what the document promises of that act.
func step(t *testing.T, p api.Plan, s api.State, d *draw) (api.State, api.Errno) {
	switch d.below(11) {
	case 0:
		return recv.Enter(p, s, []api.Line{{Good: d.below(2), Want: 1 + d.below(12)}, {Good: d.below(2), Want: 1 + d.below(5)}}[:1+d.below(2)])
	case 1:
		x, e := wave.Release(p, s)
		askRelease(t, p, s, x, e)
		return x, e
	case 2:
		order := d.below(30)
		x, e := wave.Cancel(p, s, order)
		askOthers(t, s, x, e, order)
		return x, e
	case 3:
		x, e := fill.Fill(p, s)
		askFill(t, p, s, x, e)
		return x, e
	case 4:
		return fill.Moved(p, s, d.below(2), d.below(7))
	case 5, 6:
		return recv.Receive(p, s, d.below(5), d.below(2), 1+d.below(9))
	case 7, 8:
		bin, good := d.below(5), d.below(2)
		seen := d.below(s.On[bin][good] + 3)
		x, e := count.Count(p, s, bin, good, seen)
		askCount(t, p, s, x, e, bin, good, seen)
		return x, e
	}
	var h api.Hold
	if len(s.Holds) > 0 {
		h = s.Holds[d.below(len(s.Holds))]
	}
	x, e := pick.Pick(p, s, h.Order, h.Line, h.Bin, d.below(h.N+2))
	askPick(t, p, s, x, e, h)
	return x, e
}

// askRelease: no good is to be had while a released line lacks it, nobody loses what was held, and who was entered first has first.
func askRelease(t *testing.T, p api.Plan, before, after api.State, e api.Errno) {
	if e != api.OK {
		t.Fatalf("Release of %v tells %d", before, e)
	}
	for _, o := range after.Orders {
		for _, l := range o.Lines {
			for bin := range p.Bins {
				if n, _ := state.Avail(p, after, bin, l.Good); o.Kind == api.Released && l.Back > 0 && n != 0 {
					t.Fatalf("%d of %d are to be had in %d, and %v lacks some", n, l.Good, bin, o)
				}
			}
		}
	}
	for _, h := range before.Holds {
		if !slices.ContainsFunc(after.Holds, func(x api.Hold) bool { return x.Order == h.Order && x.Line == h.Line && x.Bin == h.Bin && x.N >= h.N }) {
			t.Fatalf("%v is no more held in %v", h, after)
		}
	}
	askFirst(t, p, before, after)
}

// askFirst: where a line lacks a good, no line behind it was given any.
func askFirst(t *testing.T, p api.Plan, before, after api.State) {
	lacked := make([]bool, len(p.Sizes))
	for i, o := range after.Orders {
		for j, l := range o.Lines {
			had, _ := holds.Kept(before.Holds, i, j)
			has, _ := holds.Kept(after.Holds, i, j)
			if lacked[l.Good] && has > had {
				t.Fatalf("line %d of order %d held %d, and holds %d, though one ahead of it lacks some: %v", j, i, had, has, after)
			}
			if o.Kind == api.Released && l.Back > 0 {
				lacked[l.Good] = true
			}
		}
	}
}

// askPick: what is not found is looked for elsewhere, and nobody else's holds change.
func askPick(t *testing.T, p api.Plan, before, after api.State, e api.Errno, h api.Hold) {
	if e != api.OK {
		return
	}
	askOthers(t, before, after, e, h.Order)
	its := func(x api.Hold) bool { return x.Order == h.Order && x.Line == h.Line }
	a, b := slices.DeleteFunc(slices.Clone(before.Holds), its), slices.DeleteFunc(slices.Clone(after.Holds), its)
	if !slices.Equal(a, b) {
		t.Fatalf("for other lines %v were held, and %v are", a, b)
	}
	l, then := before.Orders[h.Order].Lines[h.Line], after.Orders[h.Order].Lines[h.Line]
	for bin := range p.Bins {
		if n, _ := state.Avail(p, after, bin, l.Good); bin != h.Bin && n > 0 && then.Back > l.Back {
			t.Fatalf("%d of %d are to be had in %d, and %v came of %v", n, l.Good, bin, then, l)
		}
	}
}

// askOthers: nothing changes for the other orders.
func askOthers(t *testing.T, before, after api.State, e api.Errno, order int) {
	if e != api.OK {
		return
	}
	its := func(h api.Hold) bool { return h.Order == order }
	a, b := slices.DeleteFunc(slices.Clone(before.Holds), its), slices.DeleteFunc(slices.Clone(after.Holds), its)
	if !slices.Equal(a, b) {
		t.Fatalf("others held %v, and hold %v", a, b)
	}
	for i := range before.Orders {
		if i != order && !reflect.DeepEqual(before.Orders[i], after.Orders[i]) {
			t.Fatalf("order %d was %v, and is %v", i, before.Orders[i], after.Orders[i])
		}
	}
}

// askFill: no bin is made fuller than it may be, and where less than Low is to be in front still, nothing could be moved there.
func askFill(t *testing.T, p api.Plan, before, after api.State, e api.Errno) {
	if e != api.OK || !slices.Equal(before.Moves, after.Moves[:len(before.Moves)]) {
		t.Fatalf("Fill of %v is %v %d", before, after, e)
	}
	for _, m := range after.Moves[len(before.Moves):] {
		free, _ := state.Free(p, after, m.To)
		if free < 0 || bins.Lying(after, m.To, m.Good) > p.Bins[m.To].High || !p.Bins[m.To].Front || p.Bins[m.From].Front {
			t.Fatalf("%v is to move in %v", m, after)
		}
	}
	for to := range bins.Of(p, true) {
		for good, size := range p.Sizes {
			free, _ := state.Free(p, after, to)
			if bins.Lying(after, to, good) >= p.Bins[to].Low || free < size || len(after.Moves) == api.MaxMoves {
				continue
			}
			for from := range bins.Of(p, false) {
				if n, _ := state.Avail(p, after, from, good); n > 0 {
					t.Fatalf("%d of %d in %d could be moved to %d in %v", n, good, from, to, after)
				}
			}
		}
	}
}

// Whatever act is done to a right state, what comes is right.
func TestWalks(t *testing.T) {
	p := yard()
	for walk := range 60 {
		d := draw(walk)
		s, _ := state.Begin(p)
		for range 120 {
			x, e := step(t, p, s, &d)
			if e != api.OK {
				if !reflect.DeepEqual(x, api.State{}) {
					t.Fatalf("%v and the error %d", x, e)
				}
				continue
			}
			if told := state.Check(p, x); told != api.OK {
				t.Fatalf("of %v comes %v: Check tells %d", s, x, told)
			}
			s = x
			askBook(t, p, s)
			if len(s.Orders) == api.MaxOrders && d.below(9) == 0 {
				s.Orders, s.Holds = nil, nil
			}
		}
	}
}

// Released, and all that is held picked, each order is closed, or lacks what can't be had.
func TestWalksEnd(t *testing.T) {
	p := yard()
	for walk := range 60 {
		d := draw(walk)
		s, _ := state.Begin(p)
		for range 40 {
			if x, e := step(t, p, s, &d); e == api.OK {
				s = x
			}
		}
		s, _ = wave.Release(p, s)
		for len(s.Holds) > 0 {
			h := s.Holds[0]
			s, _ = pick.Pick(p, s, h.Order, h.Line, h.Bin, h.N)
		}
		askRelease(t, p, s, s, state.Check(p, s))
		for _, o := range s.Orders {
			lacks := slices.ContainsFunc(o.Lines, func(l api.Line) bool { return l.Back > 0 })
			if o.Kind != api.Closed && !lacks {
				t.Errorf("%v is neither closed, nor lacks something", o)
			}
		}
	}
}
