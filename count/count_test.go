package count_test

import (
	"math"
	"reflect"
	"slices"
	"testing"

	"weighhouse/api"
	"weighhouse/count"
	"weighhouse/sample"
	"weighhouse/state"
)

// lane has three bins, the last one in front.
func lane() api.Plan {
	return api.Plan{Bins: []api.Bin{{Room: 900}, {Room: 900}, {Front: true, Room: 900}}, Sizes: []int{1, 2}}
}

// busy has 1, 2 and 3 of the first good to be had, bin by bin; in the first bin 9 are held for three lines, and 5 are to move in two moves.
func busy() api.State {
	return api.State{
		On: [][]int{{15, 5}, {6, 2}, {5, 0}},
		Orders: []api.Order{
			{Kind: api.Released, Lines: []api.Line{{Good: 0, Want: 5, Back: 1}, {Good: 1, Want: 3}}},
			{Kind: api.Closed, Lines: []api.Line{{Good: 0, Want: 4, Got: 1, Back: 3}}},
			{Kind: api.Released, Lines: []api.Line{{Good: 0, Want: 6, Got: 1}, {Good: 0, Want: 4}}},
			{Kind: api.Entered, Lines: []api.Line{{Good: 0, Want: 2}}},
		},
		Holds: []api.Hold{
			hold(0, 0, 0, 3), hold(0, 0, 1, 1), hold(0, 1, 0, 3),
			hold(2, 0, 0, 4), hold(2, 0, 2, 1), hold(2, 1, 0, 2), hold(2, 1, 1, 2),
		},
		Moves: []api.Move{move(0, 0, 2, 2), move(1, 0, 2, 1), move(0, 0, 1, 3), move(0, 1, 2, 1), move(0, 2, 0, 1)},
		In:    []int{28, 7}, Out: []int{2, 0}, Fixed: []int{0, 0},
	}
}

func hold(order, line, bin, n int) api.Hold {
	return api.Hold{Order: order, Line: line, Bin: bin, N: n}
}

func move(good, from, to, n int) api.Move {
	return api.Move{Good: good, From: from, To: to, N: n}
}

// counted is what busy must be when so many of a good were seen in a bin, beside what is cut.
func counted(bin, good, seen int) api.State {
	s := busy()
	s.Fixed[good] = seen - s.On[bin][good]
	s.On[bin][good] = seen
	return s
}

func ask(t *testing.T, p api.Plan, s api.State, bin, good, seen int, want api.State) {
	t.Helper()
	x, e := count.Count(p, s, bin, good, seen)
	if e != api.OK || !reflect.DeepEqual(x, want) {
		t.Errorf("Count of %d of good %d in %d is\n%v %d, must be\n%v", seen, good, bin, x, e, want)
	}
	if e := state.Check(p, x); e != api.OK {
		t.Errorf("Count of %d of good %d in %d: Check of what comes is %d", seen, good, bin, e)
	}
}

// As long as what was to be had is not all missing, nothing is cut; and nothing is held anew, though a line lacks some.
func TestJ1NothingIsCut(t *testing.T) {
	for _, seen := range []int{14, 15, 16, 20, 199, 200} {
		ask(t, lane(), busy(), 0, 0, seen, counted(0, 0, seen))
	}
	for _, seen := range []int{0, 1, 2, 3, 200} {
		ask(t, lane(), busy(), 1, 1, seen, counted(1, 1, seen))
		ask(t, lane(), busy(), 2, 1, seen, counted(2, 1, seen))
	}
}

// The last move loses pieces first; moves of another good, from another bin, or to this one, lose none.
func TestJ1MovesAreCut(t *testing.T) {
	other, back, here := move(1, 0, 2, 1), move(0, 1, 2, 1), move(0, 2, 0, 1)
	cases := []struct {
		seen  int
		moves []api.Move
	}{
		{13, []api.Move{move(0, 0, 2, 2), other, move(0, 0, 1, 2), back, here}},
		{12, []api.Move{move(0, 0, 2, 2), other, move(0, 0, 1, 1), back, here}},
		{11, []api.Move{move(0, 0, 2, 2), other, back, here}},
		{10, []api.Move{move(0, 0, 2, 1), other, back, here}},
		{9, []api.Move{other, back, here}},
	}
	for _, c := range cases {
		want := counted(0, 0, c.seen)
		want.Moves = c.moves
		ask(t, lane(), busy(), 0, 0, c.seen, want)
	}
}

// The last hold loses pieces first; what was cut is taken elsewhere, in front first, for the first line first, and what was in Back before is not taken.
func TestJ1HoldsAreCut(t *testing.T) {
	there, other := hold(0, 0, 1, 1), hold(0, 1, 0, 3)
	cases := []struct {
		seen  int
		backs []int
		holds []api.Hold
	}{
		{8, []int{1, 0, 0}, []api.Hold{hold(0, 0, 0, 3), there, other, hold(2, 0, 0, 4), hold(2, 0, 2, 1), hold(2, 1, 0, 1), hold(2, 1, 1, 2), hold(2, 1, 2, 1)}},
		{7, []int{1, 0, 0}, []api.Hold{hold(0, 0, 0, 3), there, other, hold(2, 0, 0, 4), hold(2, 0, 2, 1), hold(2, 1, 1, 2), hold(2, 1, 2, 2)}},
		{6, []int{1, 0, 0}, []api.Hold{hold(0, 0, 0, 3), there, other, hold(2, 0, 0, 3), hold(2, 0, 2, 2), hold(2, 1, 1, 2), hold(2, 1, 2, 2)}},
		{5, []int{1, 0, 0}, []api.Hold{hold(0, 0, 0, 3), there, other, hold(2, 0, 0, 2), hold(2, 0, 2, 3), hold(2, 1, 1, 3), hold(2, 1, 2, 1)}},
		{4, []int{1, 0, 0}, []api.Hold{hold(0, 0, 0, 3), there, other, hold(2, 0, 0, 1), hold(2, 0, 2, 4), hold(2, 1, 1, 4)}},
		{3, []int{1, 0, 1}, []api.Hold{hold(0, 0, 0, 3), there, other, hold(2, 0, 1, 1), hold(2, 0, 2, 4), hold(2, 1, 1, 3)}},
		{2, []int{1, 0, 2}, []api.Hold{hold(0, 0, 0, 2), there, hold(0, 0, 2, 1), other, hold(2, 0, 1, 2), hold(2, 0, 2, 3), hold(2, 1, 1, 2)}},
		{1, []int{1, 1, 2}, []api.Hold{hold(0, 0, 0, 1), there, hold(0, 0, 2, 2), other, hold(2, 0, 1, 2), hold(2, 0, 2, 2), hold(2, 1, 1, 2)}},
		{0, []int{1, 2, 2}, []api.Hold{there, hold(0, 0, 2, 3), other, hold(2, 0, 1, 2), hold(2, 0, 2, 1), hold(2, 1, 1, 2)}},
	}
	for _, c := range cases {
		want := counted(0, 0, c.seen)
		want.Moves = []api.Move{move(1, 0, 2, 1), move(0, 1, 2, 1), move(0, 2, 0, 1)}
		want.Holds = c.holds
		want.Orders[0].Lines[0].Back, want.Orders[2].Lines[0].Back, want.Orders[2].Lines[1].Back = c.backs[0], c.backs[1], c.backs[2]
		ask(t, lane(), busy(), 0, 0, c.seen, want)
	}
}

// What is cut of the second good changes nothing of the first one.
func TestJ1CountOfTheOtherGood(t *testing.T) {
	want := counted(0, 1, 0)
	want.Moves = slices.Delete(want.Moves, 1, 2)
	want.Holds[2] = hold(0, 1, 1, 2)
	want.Orders[0].Lines[1].Back = 1
	ask(t, lane(), busy(), 0, 1, 0, want)
}

// In front less is seen, and what was held there is held behind.
func TestJ1CountInFront(t *testing.T) {
	want := counted(2, 0, 0)
	want.Moves = want.Moves[:4]
	want.Holds = slices.Delete(want.Holds, 4, 5)
	want.Holds[3].N = 5
	ask(t, lane(), busy(), 2, 0, 0, want)
}

// More may be seen than there is room for, and than may be moved there still.
func TestJ1NoRoomIsAsked(t *testing.T) {
	p := lane()
	p.Bins[2].Room = 0
	ask(t, p, busy(), 2, 0, 200, counted(2, 0, 200))
}

func TestJ1CountOfTheExample(t *testing.T) {
	want := sample.State()
	want.On[0][0], want.Fixed[0], want.Moves, want.Holds[0].N, want.Orders[0].Lines[0].Back = 1, -8, want.Moves[:0], 1, 1
	ask(t, sample.Plan(), sample.State(), 0, 0, 1, want)
}

// Who sees as much as is held there changes nobody's holds.
func TestJ1AsMuchAsIsHeld(t *testing.T) {
	held := [][]int{{9, 3}, {3, 0}, {1, 0}}
	for bin, row := range held {
		for good, n := range row {
			for _, seen := range []int{n, n + 1, api.MaxUnits} {
				s, e := count.Count(lane(), busy(), bin, good, seen)
				if e != api.OK || !reflect.DeepEqual(s.Holds, busy().Holds) || !reflect.DeepEqual(s.Orders, busy().Orders) {
					t.Errorf("Count of %d of good %d in %d is %v %d", seen, good, bin, s, e)
				}
			}
		}
	}
}

// What is seen twice is fixed once.
func TestJ1CountAgainChangesNothing(t *testing.T) {
	for seen := range 17 {
		once, _ := count.Count(lane(), busy(), 0, 0, seen)
		twice, e := count.Count(lane(), once, 0, 0, seen)
		if e != api.OK || !reflect.DeepEqual(once, twice) {
			t.Errorf("Count of %d is\n%v, and again\n%v %d", seen, once, twice, e)
		}
	}
}

func TestJ1FixedAddsUp(t *testing.T) {
	s := busy()
	for _, seen := range []int{0, 7, 200, 3} {
		s, _ = count.Count(lane(), s, 1, 1, seen)
		if s.Fixed[1] != seen-2 || s.Fixed[0] != 0 || s.On[1][1] != seen {
			t.Errorf("%d are seen: what comes is %v", seen, s)
		}
	}
}

func TestJ1Errors(t *testing.T) {
	cases := []struct{ bin, good, seen int }{
		{-1, 0, 1}, {3, 0, 1}, {math.MinInt, 0, 1}, {math.MaxInt, 0, 1},
		{0, -1, 1}, {0, 2, 1}, {0, math.MinInt, 1}, {0, math.MaxInt, 1},
		{0, 0, -1}, {0, 0, 201}, {0, 0, math.MinInt}, {0, 0, math.MaxInt},
		{1, 1, -1}, {-1, 2, 201},
	}
	for _, c := range cases {
		if s, e := count.Count(lane(), busy(), c.bin, c.good, c.seen); e != api.ErrRange || !reflect.DeepEqual(s, api.State{}) {
			t.Errorf("Count of %d of good %d in %d is %v %d, must be nothing and %d", c.seen, c.good, c.bin, s, e, api.ErrRange)
		}
	}
}

// ErrRange is told ahead of ErrMany.
func TestJ1TheGreatestFixed(t *testing.T) {
	s := busy()
	s.In[0], s.Out[0], s.Fixed[0] = 28, api.MaxSum, api.MaxSum-2
	cases := []struct {
		bin, good, seen int
		want            api.Errno
	}{
		{0, 0, 0, api.OK}, {0, 0, 15, api.OK}, {0, 0, 17, api.OK}, {0, 0, 18, api.ErrMany}, {0, 0, 200, api.ErrMany}, {0, 0, 201, api.ErrRange},
		{1, 0, 8, api.OK}, {1, 0, 9, api.ErrMany}, {3, 0, 200, api.ErrRange}, {0, 2, 200, api.ErrRange}, {0, 1, 200, api.OK},
	}
	for _, c := range cases {
		x, e := count.Count(lane(), s, c.bin, c.good, c.seen)
		if e != c.want || e == api.OK && state.Check(lane(), x) != api.OK || e != api.OK && !reflect.DeepEqual(x, api.State{}) {
			t.Errorf("Count of %d of good %d in %d is %v %d, must be %d", c.seen, c.good, c.bin, x, e, c.want)
		}
	}
	if x, _ := count.Count(lane(), s, 0, 0, 17); x.Fixed[0] != api.MaxSum {
		t.Errorf("Fixed is %d, must be the greatest", x.Fixed[0])
	}
}

// Fixed may become as small as it may be, and no smaller: In is MaxSum at most, and no less than none is seen.
func TestJ1TheSmallestFixed(t *testing.T) {
	s, _ := state.Begin(lane())
	s.In[0], s.Fixed[0], s.On[0][0] = api.MaxSum, 5-api.MaxSum, 5
	x, e := count.Count(lane(), s, 0, 0, 0)
	if e != api.OK || x.Fixed[0] != -api.MaxSum || state.Check(lane(), x) != api.OK {
		t.Errorf("Count is %v %d", x, e)
	}
}

func TestJ1StatesErrorsFirst(t *testing.T) {
	for _, c := range sample.Wrongs() {
		for _, k := range []int{0, 1, -9, math.MaxInt} {
			if s, e := count.Count(c.Plan, c.State, k, k, k); e != c.Errno || !reflect.DeepEqual(s, api.State{}) {
				t.Errorf("Count of %d is %v %d, must be nothing and %d", k, s, e, c.Errno)
			}
		}
	}
}
