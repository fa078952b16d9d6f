package pick_test

import (
	"math"
	"reflect"
	"testing"

	"weighhouse/api"
	"weighhouse/pick"
	"weighhouse/sample"
	"weighhouse/state"
)

// lane has three bins, the last one in front.
func lane() api.Plan {
	return api.Plan{Bins: []api.Bin{{Room: 900}, {Room: 900}, {Front: true, Room: 900}}, Sizes: []int{1, 2}}
}

// busy has 1, 3 and 2 of the first good to be had, bin by bin; its second order's first line lacks 4, and holds 6.
func busy() api.State {
	return api.State{
		On: [][]int{{7, 5}, {5, 5}, {5, 5}},
		Orders: []api.Order{
			{Kind: api.Released, Lines: []api.Line{{Good: 0, Want: 9, Back: 6}}},
			{Kind: api.Released, Lines: []api.Line{{Good: 0, Want: 11, Got: 1, Back: 4}, {Good: 1, Want: 2, Got: 2}}},
		},
		Holds: []api.Hold{
			{Order: 0, Line: 0, Bin: 0, N: 1}, {Order: 0, Line: 0, Bin: 1, N: 1}, {Order: 0, Line: 0, Bin: 2, N: 1},
			{Order: 1, Line: 0, Bin: 0, N: 4}, {Order: 1, Line: 0, Bin: 2, N: 2},
		},
		Moves: []api.Move{{Good: 0, From: 0, To: 2, N: 1}, {Good: 0, From: 1, To: 2, N: 1}},
		In:    []int{18, 17}, Out: []int{1, 2}, Fixed: []int{0, 0},
	}
}

// after is busy when so many were picked from a bin: that line lacks so many then, and holds these, bin by bin.
func after(bin, n, back int, held ...int) api.State {
	s := busy()
	s.On[bin][0] -= n
	s.Out[0] += n
	s.Orders[1].Lines[0].Got += n
	s.Orders[1].Lines[0].Back = back
	s.Holds = s.Holds[:3]
	for bin, n := range held {
		if n > 0 {
			s.Holds = append(s.Holds, api.Hold{Order: 1, Line: 0, Bin: bin, N: n})
		}
	}
	return s
}

func TestH1Pick(t *testing.T) {
	cases := []struct {
		bin, n int
		want   api.State
	}{
		{0, 4, after(0, 4, 4, 0, 0, 2)},
		{0, 3, after(0, 3, 4, 0, 0, 3)},
		{0, 2, after(0, 2, 4, 0, 0, 4)},
		{0, 1, after(0, 1, 4, 0, 1, 4)},
		{0, 0, after(0, 0, 4, 0, 2, 4)},
		{2, 2, after(2, 2, 4, 4, 0, 0)},
		{2, 1, after(2, 1, 4, 5, 0, 0)},
		{2, 0, after(2, 0, 4, 5, 1, 0)},
	}
	for _, c := range cases {
		s, e := pick.Pick(lane(), busy(), 1, 0, c.bin, c.n)
		if e != api.OK || !reflect.DeepEqual(s, c.want) {
			t.Errorf("Pick of %d from %d is\n%v %d, must be\n%v", c.n, c.bin, s, e, c.want)
		}
		if e := state.Check(lane(), s); e != api.OK {
			t.Errorf("Pick of %d from %d: Check of what comes is %d", c.n, c.bin, e)
		}
	}
}

// Elsewhere there are two only, in bin 2: the other two are lacked, and those that lie in the bin are not held again.
func TestH1WhatIsNotFoundElsewhereIsInBack(t *testing.T) {
	s := busy()
	s.Orders[0].Lines[0].Want, s.Holds[1].N = 12, 4
	want := after(0, 0, 6, 0, 0, 4)
	want.Orders[0].Lines[0].Want, want.Holds[1].N = 12, 4
	if x, e := pick.Pick(lane(), s, 1, 0, 0, 0); e != api.OK || !reflect.DeepEqual(x, want) {
		t.Errorf("Pick is\n%v %d, must be\n%v", x, e, want)
	}
}

func TestH1PickOfTheExample(t *testing.T) {
	want := sample.State()
	want.On[1][0], want.Out[0], want.Orders[0].Lines[0].Got = 2, 2, 2
	want.Holds = []api.Hold{{Order: 0, Line: 0, Bin: 0, N: 4}, {Order: 0, Line: 1, Bin: 2, N: 6}}
	s, e := pick.Pick(sample.Plan(), sample.State(), 0, 0, 1, 1)
	if e != api.OK || !reflect.DeepEqual(s, want) {
		t.Errorf("Pick is\n%v %d, must be\n%v", s, e, want)
	}
}

// last has an order that lacks nothing but what is held for its lines.
func last(lines []api.Line, holds ...api.Hold) api.State {
	return api.State{
		On:     [][]int{{5, 5}, {5, 5}, {5, 5}},
		Orders: []api.Order{{Kind: api.Entered, Lines: []api.Line{{Want: 1}}}, {Kind: api.Released, Lines: lines}},
		Holds:  holds,
		In:     []int{15, 15}, Out: []int{0, 0}, Fixed: []int{0, 0},
	}
}

func TestH1AllGotIsClosed(t *testing.T) {
	one := []api.Hold{{Order: 1, Line: 0, Bin: 0, N: 3}}
	two := append(one, api.Hold{Order: 1, Line: 0, Bin: 1, N: 2})
	cases := []struct {
		name  string
		lines []api.Line
		holds []api.Hold
		n     int
		want  int
	}{
		{"the only line", []api.Line{{Want: 3}}, one, 3, api.Closed},
		{"not all of it", []api.Line{{Want: 3}}, one, 2, api.Released},
		{"nothing of it", []api.Line{{Want: 3}}, one, 0, api.Released},
		{"got before", []api.Line{{Want: 5, Got: 2}}, one, 3, api.Closed},
		{"something held elsewhere", []api.Line{{Want: 5}}, two, 3, api.Released},
		{"something in Back", []api.Line{{Want: 5, Back: 2}}, one, 3, api.Released},
		{"a line behind it got whole", []api.Line{{Want: 3}, {Good: 1, Want: 2, Got: 2}}, one, 3, api.Closed},
		{"a line behind it in Back", []api.Line{{Want: 3}, {Good: 1, Want: 2, Got: 1, Back: 1}}, one, 3, api.Released},
		{"a line behind it held", []api.Line{{Want: 3}, {Good: 1, Want: 2}}, append(one, api.Hold{Order: 1, Line: 1, Bin: 0, N: 2}), 3, api.Released},
	}
	for _, c := range cases {
		s, e := pick.Pick(lane(), last(c.lines, c.holds...), 1, 0, 0, c.n)
		if e != api.OK || s.Orders[1].Kind != c.want || s.Orders[0].Kind != api.Entered {
			t.Errorf("%s: Pick is %v %d, and the order must be %d", c.name, s, e, c.want)
		}
		if e := state.Check(lane(), s); e != api.OK {
			t.Errorf("%s: Check of what comes is %d", c.name, e)
		}
	}
}

// A line ahead of the picked one counts too.
func TestH1ALineAheadIsAsked(t *testing.T) {
	for back, want := range []int{api.Closed, api.Released} {
		lines := []api.Line{{Good: 1, Want: 2, Got: 2 - back, Back: back}, {Want: 3}}
		s, e := pick.Pick(lane(), last(lines, api.Hold{Order: 1, Line: 1, Bin: 0, N: 3}), 1, 1, 0, 3)
		if e != api.OK || s.Orders[1].Kind != want || len(s.Holds) != 0 {
			t.Errorf("with %d in Back Pick is %v %d, and the order must be %d", back, s, e, want)
		}
	}
}

func TestH1AllThatIsHeldPicked(t *testing.T) {
	s := busy()
	for len(s.Holds) > 0 {
		var e api.Errno
		h := s.Holds[0]
		if s, e = pick.Pick(lane(), s, h.Order, h.Line, h.Bin, h.N); e != api.OK {
			t.Fatalf("Pick of %v tells %d", h, e)
		}
	}
	want := []api.Order{
		{Kind: api.Released, Lines: []api.Line{{Good: 0, Want: 9, Got: 3, Back: 6}}},
		{Kind: api.Released, Lines: []api.Line{{Good: 0, Want: 11, Got: 7, Back: 4}, {Good: 1, Want: 2, Got: 2}}},
	}
	if !reflect.DeepEqual(s.Orders, want) || !reflect.DeepEqual(s.Out, []int{10, 2}) {
		t.Errorf("what comes is %v, and must have %v", s, want)
	}
}

func TestH1Errors(t *testing.T) {
	cases := []struct {
		name                string
		order, line, bin, n int
		want                api.Errno
	}{
		{"an order below", -1, 0, 0, 1, api.ErrNone},
		{"an order above", 2, 0, 0, 1, api.ErrNone},
		{"orders far off", math.MinInt, 0, 0, 1, api.ErrNone},
		{"a line below", 1, -1, 0, 1, api.ErrNone},
		{"a line above", 1, 2, 0, 1, api.ErrNone},
		{"lines far off", 1, math.MaxInt, 0, 1, api.ErrNone},
		{"a bin below", 1, 0, -1, 1, api.ErrNone},
		{"a bin above", 1, 0, 3, 1, api.ErrNone},
		{"bins far off", 1, 0, math.MaxInt, 1, api.ErrNone},
		{"a bin in which others hold some", 1, 0, 1, 1, api.ErrNone},
		{"a line that holds nothing", 1, 1, 0, 1, api.ErrNone},
		{"nothing of what is not held", 1, 1, 0, 0, api.ErrNone},
		{"less than nothing of what is not held", 1, 0, 1, -1, api.ErrNone},
		{"less than nothing", 1, 0, 0, -1, api.ErrRange},
		{"more than is held", 1, 0, 0, 5, api.ErrRange},
		{"more than is held, in front", 1, 0, 2, 3, api.ErrRange},
		{"far too little", 1, 0, 0, math.MinInt, api.ErrRange},
		{"far too much", 1, 0, 0, math.MaxInt, api.ErrRange},
	}
	for _, c := range cases {
		s, e := pick.Pick(lane(), busy(), c.order, c.line, c.bin, c.n)
		if e != c.want || !reflect.DeepEqual(s, api.State{}) {
			t.Errorf("%s: Pick is %v %d, must be nothing and %d", c.name, s, e, c.want)
		}
	}
}

func TestH1TheGreatestOut(t *testing.T) {
	s := busy()
	s.In[0], s.Out[0], s.Fixed[0] = 19, api.MaxSum-2, api.MaxSum-4
	cases := []struct {
		bin, n int
		want   api.Errno
	}{
		{0, 0, api.OK}, {0, 2, api.OK}, {2, 2, api.OK}, {0, 3, api.ErrMany}, {0, 4, api.ErrMany}, {0, 5, api.ErrRange}, {1, 3, api.ErrNone},
	}
	for _, c := range cases {
		x, e := pick.Pick(lane(), s, 1, 0, c.bin, c.n)
		if e != c.want || e == api.OK && x.Out[0] != api.MaxSum-2+c.n || e != api.OK && !reflect.DeepEqual(x, api.State{}) {
			t.Errorf("Pick of %d from %d is %v %d, must be %d", c.n, c.bin, x, e, c.want)
		}
	}
}

func TestH1TheGreatestOutOfOneGood(t *testing.T) {
	for good, want := range []api.Errno{api.OK, api.ErrMany} {
		s := last([]api.Line{{Good: 1, Want: 5}}, api.Hold{Order: 1, Line: 0, Bin: 0, N: 5})
		s.Out[good], s.Fixed[good] = api.MaxSum, api.MaxSum
		if x, e := pick.Pick(lane(), s, 1, 0, 0, 5); e != want {
			t.Errorf("with the greatest Out of good %d Pick is %v %d, must be %d", good, x, e, want)
		}
	}
}

func TestH1StatesErrorsFirst(t *testing.T) {
	for _, c := range sample.Wrongs() {
		for _, k := range []int{0, 1, -9, math.MaxInt} {
			if s, e := pick.Pick(c.Plan, c.State, k, k, k, k); e != c.Errno || !reflect.DeepEqual(s, api.State{}) {
				t.Errorf("Pick of %d is %v %d, must be nothing and %d", k, s, e, c.Errno)
			}
		}
	}
}
