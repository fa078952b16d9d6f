package wave_test

import (
	"math"
	"reflect"
	"testing"

	"weighhouse/api"
	"weighhouse/recv"
	"weighhouse/sample"
	"weighhouse/state"
	"weighhouse/wave"
)

// lane has three bins, the last one in front.
func lane() api.Plan {
	return api.Plan{Bins: []api.Bin{{Room: 900}, {Room: 900}, {Front: true, Room: 900}}, Sizes: []int{1, 2}}
}

// queue has an order of each kind, and one more of those that are not closed; of the first good 3, 4 and 2 are to be had, bin by bin, of the second one 5 in the second bin.
func queue() api.State {
	return api.State{
		On: [][]int{{5, 0}, {4, 6}, {2, 0}},
		Orders: []api.Order{
			{Kind: api.Entered, Lines: []api.Line{{Good: 0, Want: 3}, {Good: 1, Want: 2}}},
			{Kind: api.Closed, Lines: []api.Line{{Good: 0, Want: 9, Got: 2, Back: 7}}},
			{Kind: api.Released, Lines: []api.Line{{Good: 0, Want: 6, Got: 1, Back: 4}, {Good: 1, Want: 3, Back: 2}}},
			{Kind: api.Entered, Lines: []api.Line{{Good: 0, Want: 4}, {Good: 0, Want: 1}, {Good: 1, Want: 200}}},
		},
		Holds: []api.Hold{{Order: 2, Line: 0, Bin: 0, N: 1}, {Order: 2, Line: 1, Bin: 1, N: 1}},
		Moves: []api.Move{{Good: 0, From: 0, To: 2, N: 1}},
		In:    []int{14, 6}, Out: []int{3, 0}, Fixed: []int{0, 0},
	}
}

// released is what queue must be when it is released: those in front are served first, whichever kind they were of.
func released() api.State {
	s := queue()
	s.Orders[0] = api.Order{Kind: api.Released, Lines: []api.Line{{Good: 0, Want: 3}, {Good: 1, Want: 2}}}
	s.Orders[2].Lines = []api.Line{{Good: 0, Want: 6, Got: 1}, {Good: 1, Want: 3}}
	s.Orders[3] = api.Order{Kind: api.Released, Lines: []api.Line{{Good: 0, Want: 4, Back: 2}, {Good: 0, Want: 1, Back: 1}, {Good: 1, Want: 200, Back: 199}}}
	s.Holds = []api.Hold{
		{Order: 0, Line: 0, Bin: 0, N: 1}, {Order: 0, Line: 0, Bin: 2, N: 2}, {Order: 0, Line: 1, Bin: 1, N: 2},
		{Order: 2, Line: 0, Bin: 0, N: 3}, {Order: 2, Line: 0, Bin: 1, N: 2}, {Order: 2, Line: 1, Bin: 1, N: 3},
		{Order: 3, Line: 0, Bin: 1, N: 2}, {Order: 3, Line: 2, Bin: 1, N: 1},
	}
	return s
}

func TestG1Release(t *testing.T) {
	s, e := wave.Release(lane(), queue())
	if want := released(); e != api.OK || !reflect.DeepEqual(s, want) {
		t.Errorf("Release is\n%v %d, must be\n%v", s, e, want)
	}
	if e := state.Check(lane(), s); e != api.OK {
		t.Errorf("Check of what comes is %d", e)
	}
}

func TestG1ReleaseAgainChangesNothing(t *testing.T) {
	s, e := wave.Release(lane(), released())
	if e != api.OK || !reflect.DeepEqual(s, released()) {
		t.Errorf("Release is\n%v %d, must be\n%v", s, e, released())
	}
}

func TestG1ReleaseOfTheExample(t *testing.T) {
	want := sample.State()
	want.Orders[1] = api.Order{Kind: api.Released, Lines: []api.Line{{Good: 0, Want: 4, Back: 2}}}
	want.Holds = append(want.Holds, api.Hold{Order: 1, Line: 0, Bin: 0, N: 2})
	s, e := wave.Release(sample.Plan(), sample.State())
	if e != api.OK || !reflect.DeepEqual(s, want) {
		t.Errorf("Release is\n%v %d, must be\n%v", s, e, want)
	}
}

// What comes later is held for those that lack it, the first one first.
func TestG1ReleaseOfWhatCameSince(t *testing.T) {
	s, _ := recv.Receive(lane(), released(), 2, 0, 1)
	s, e := wave.Release(lane(), s)
	last := s.Orders[3].Lines
	if e != api.OK || last[0].Back != 1 || last[1].Back != 1 || last[2].Back != 199 {
		t.Errorf("Release is %v %d", s, e)
	}
	s, _ = recv.Receive(lane(), s, 2, 0, 5)
	s, e = wave.Release(lane(), s)
	last = s.Orders[3].Lines
	if e != api.OK || last[0].Back != 0 || last[1].Back != 0 || last[2].Back != 199 {
		t.Errorf("Release is %v %d", s, e)
	}
}

func TestG1NothingIsToBeHadWhileALineLacksIt(t *testing.T) {
	s, _ := wave.Release(lane(), queue())
	for bin := range lane().Bins {
		for good := range lane().Sizes {
			if n, e := state.Avail(lane(), s, bin, good); n != 0 || e != api.OK {
				t.Errorf("of good %d are to be had in bin %d %d (%d)", good, bin, n, e)
			}
		}
	}
}

func TestG1ReleaseOfNoOrders(t *testing.T) {
	s, _ := state.Begin(lane())
	x, e := wave.Release(lane(), s)
	if e != api.OK || !reflect.DeepEqual(x, s) {
		t.Errorf("Release is %v %d, must be %v", x, e, s)
	}
}

func TestG1ReleaseWithNothingThere(t *testing.T) {
	s, _ := state.Begin(lane())
	s, _ = recv.Enter(lane(), s, []api.Line{{Good: 0, Want: 200}, {Good: 1, Want: 1}})
	s, e := wave.Release(lane(), s)
	want := []api.Order{{Kind: api.Released, Lines: []api.Line{{Good: 0, Want: 200, Back: 200}, {Good: 1, Want: 1, Back: 1}}}}
	if e != api.OK || !reflect.DeepEqual(s.Orders, want) || len(s.Holds) != 0 {
		t.Errorf("Release is %v %d, must have %v", s, e, want)
	}
}

func TestG1Cancel(t *testing.T) {
	cases := []struct {
		order int
		lines []api.Line
		holds []api.Hold
	}{
		{0, []api.Line{{Good: 0, Want: 3, Back: 3}, {Good: 1, Want: 2, Back: 2}}, released().Holds[3:]},
		{2, []api.Line{{Good: 0, Want: 6, Got: 1, Back: 5}, {Good: 1, Want: 3, Back: 3}}, append(released().Holds[:3:3], released().Holds[6:]...)},
		{3, []api.Line{{Good: 0, Want: 4, Back: 4}, {Good: 0, Want: 1, Back: 1}, {Good: 1, Want: 200, Back: 200}}, released().Holds[:6]},
	}
	for _, c := range cases {
		want := released()
		want.Orders[c.order] = api.Order{Kind: api.Closed, Lines: c.lines}
		want.Holds = c.holds
		s, e := wave.Cancel(lane(), released(), c.order)
		if e != api.OK || !reflect.DeepEqual(s, want) {
			t.Errorf("Cancel of %d is\n%v %d, must be\n%v", c.order, s, e, want)
		}
		if e := state.Check(lane(), s); e != api.OK {
			t.Errorf("Cancel of %d: Check of what comes is %d", c.order, e)
		}
	}
}

func TestG1CancelOfWhatIsEntered(t *testing.T) {
	want := queue()
	want.Orders[0] = api.Order{Kind: api.Closed, Lines: []api.Line{{Good: 0, Want: 3, Back: 3}, {Good: 1, Want: 2, Back: 2}}}
	s, e := wave.Cancel(lane(), queue(), 0)
	if e != api.OK || !reflect.DeepEqual(s, want) || state.Check(lane(), s) != api.OK {
		t.Errorf("Cancel is\n%v %d, must be\n%v", s, e, want)
	}
}

// What was held for it is to be had by those that are released next.
func TestG1CancelAndRelease(t *testing.T) {
	s, _ := wave.Cancel(lane(), released(), 0)
	s, e := wave.Release(lane(), s)
	last := s.Orders[3].Lines
	if e != api.OK || last[0].Back != 0 || last[1].Back != 0 || last[2].Back != 197 {
		t.Errorf("Release is %v %d", s, e)
	}
}

func TestG1CancelErrors(t *testing.T) {
	cases := []struct {
		order int
		want  api.Errno
	}{
		{-1, api.ErrNone}, {4, api.ErrNone}, {math.MinInt, api.ErrNone}, {math.MaxInt, api.ErrNone}, {1, api.ErrDone},
	}
	for _, c := range cases {
		if s, e := wave.Cancel(lane(), queue(), c.order); e != c.want || !reflect.DeepEqual(s, api.State{}) {
			t.Errorf("Cancel of %d is %v %d, must be nothing and %d", c.order, s, e, c.want)
		}
	}
	once, _ := wave.Cancel(lane(), queue(), 2)
	if s, e := wave.Cancel(lane(), once, 2); e != api.ErrDone || !reflect.DeepEqual(s, api.State{}) {
		t.Errorf("Cancel of one that was cancelled is %v %d", s, e)
	}
	none, _ := state.Begin(lane())
	if s, e := wave.Cancel(lane(), none, 0); e != api.ErrNone || !reflect.DeepEqual(s, api.State{}) {
		t.Errorf("Cancel where there are no orders is %v %d", s, e)
	}
}

func TestG1StatesErrorsFirst(t *testing.T) {
	for _, c := range sample.Wrongs() {
		if s, e := wave.Release(c.Plan, c.State); e != c.Errno || !reflect.DeepEqual(s, api.State{}) {
			t.Errorf("Release is %v %d, must be nothing and %d", s, e, c.Errno)
		}
		for _, k := range []int{0, 1, -9, math.MaxInt} {
			if s, e := wave.Cancel(c.Plan, c.State, k); e != c.Errno || !reflect.DeepEqual(s, api.State{}) {
				t.Errorf("Cancel of %d is %v %d, must be nothing and %d", k, s, e, c.Errno)
			}
		}
	}
}
