package fill_test

import (
	"math"
	"reflect"
	"slices"
	"testing"

	"weighhouse/api"
	"weighhouse/fill"
	"weighhouse/sample"
	"weighhouse/state"
)

// lane has a front bin, two behind, a front bin, and one behind.
func lane() api.Plan {
	return api.Plan{
		Bins: []api.Bin{
			{Front: true, Room: 900, Low: 4, High: 8}, {Room: 900}, {Room: 900},
			{Front: true, Room: 900, Low: 2, High: 5}, {Room: 900},
		},
		Sizes: []int{2, 3},
	}
}

// stock is a state of nothing but what lies there, and moves.
func stock(on [][]int, moves ...api.Move) api.State {
	s := api.State{On: on, Moves: moves}
	for good := range on[0] {
		sum := 0
		for _, row := range on {
			sum += row[good]
		}
		s.In, s.Out, s.Fixed = append(s.In, sum), append(s.Out, 0), append(s.Fixed, 0)
	}
	return s
}

func move(good, from, to, n int) api.Move {
	return api.Move{Good: good, From: from, To: to, N: n}
}

// filled is a plan, a state, and the moves that Fill must add.
type filled struct {
	name  string
	turn  func(p *api.Plan)
	s     api.State
	added []api.Move
}

func asItIs(p *api.Plan) {}

func ordinary() []filled {
	return []filled{
		{"nothing lies anywhere", asItIs, stock([][]int{{0, 0}, {0, 0}, {0, 0}, {0, 0}, {0, 0}}), nil},
		{"the example", asItIs, stock([][]int{{1, 9}, {9, 0}, {9, 0}, {5, 5}, {0, 0}}), []api.Move{move(0, 1, 0, 7)}},
		{"as much as Low", asItIs, stock([][]int{{4, 4}, {9, 9}, {9, 9}, {2, 2}, {9, 9}}), nil},
		{"one less than Low", asItIs, stock([][]int{{3, 4}, {9, 9}, {9, 9}, {2, 1}, {9, 9}}), []api.Move{move(0, 1, 0, 5), move(1, 1, 3, 4)}},
		{"from several", asItIs, stock([][]int{{0, 4}, {3, 0}, {2, 0}, {2, 2}, {9, 0}}), []api.Move{move(0, 1, 0, 3), move(0, 2, 0, 2), move(0, 4, 0, 3)}},
		{"from as many as it needs", asItIs, stock([][]int{{1, 4}, {5, 0}, {2, 0}, {2, 2}, {9, 0}}), []api.Move{move(0, 1, 0, 5), move(0, 2, 0, 2)}},
		{"past those that have none", asItIs, stock([][]int{{0, 4}, {0, 9}, {0, 9}, {2, 2}, {1, 9}}), []api.Move{move(0, 4, 0, 1)}},
		{"still above Low, once Low is reached", asItIs, stock([][]int{{0, 4}, {4, 0}, {9, 0}, {2, 2}, {0, 0}}), []api.Move{move(0, 1, 0, 4), move(0, 2, 0, 4)}},
		{"bin by bin, good by good", asItIs, stock([][]int{{0, 0}, {20, 20}, {0, 0}, {0, 0}, {0, 0}}),
			[]api.Move{move(0, 1, 0, 8), move(1, 1, 0, 8), move(0, 1, 3, 5), move(1, 1, 3, 5)}},
		{"who comes first has first", asItIs, stock([][]int{{0, 4}, {3, 0}, {0, 0}, {0, 2}, {7, 0}}),
			[]api.Move{move(0, 1, 0, 3), move(0, 4, 0, 5), move(0, 4, 3, 2)}},
		{"not from the front", asItIs, stock([][]int{{0, 4}, {0, 0}, {0, 0}, {99, 99}, {0, 0}}), nil},
		{"no bins in front", func(p *api.Plan) { p.Bins[0].Front, p.Bins[3].Front = false, false },
			stock([][]int{{0, 0}, {9, 9}, {9, 9}, {0, 0}, {9, 9}}), nil},
		{"all bins in front", func(p *api.Plan) { p.Bins[1].Front, p.Bins[2].Front, p.Bins[4].Front = true, true, true },
			stock([][]int{{0, 0}, {9, 9}, {9, 9}, {0, 0}, {9, 9}}), nil},
		{"Low 0", func(p *api.Plan) { p.Bins[0].Low = 0 }, stock([][]int{{0, 0}, {9, 9}, {9, 9}, {2, 2}, {9, 9}}), nil},
		{"Low and High the same", func(p *api.Plan) { p.Bins[0].High = 4 }, stock([][]int{{3, 4}, {9, 9}, {9, 9}, {2, 2}, {9, 9}}),
			[]api.Move{move(0, 1, 0, 1)}},
		{"as much as may lie there", func(p *api.Plan) { p.Bins[0] = api.Bin{Front: true, Room: 1000, Low: 200, High: 200} },
			stock([][]int{{0, 200}, {150, 0}, {150, 0}, {2, 2}, {0, 0}}), []api.Move{move(0, 1, 0, 150), move(0, 2, 0, 50)}},
	}
}

// withMoves are those in which something is to move already.
func withMoves() []filled {
	return []filled{
		{"Low is reached by what is to move there", asItIs, stock([][]int{{1, 4}, {9, 0}, {9, 0}, {2, 2}, {9, 0}}, move(0, 2, 0, 3)), nil},
		{"Low is not reached by it", asItIs, stock([][]int{{1, 4}, {9, 0}, {9, 0}, {2, 2}, {9, 0}}, move(0, 2, 0, 2)), []api.Move{move(0, 1, 0, 5)}},
		{"by two moves", asItIs, stock([][]int{{1, 4}, {9, 0}, {9, 0}, {2, 2}, {9, 0}}, move(0, 2, 0, 2), move(0, 1, 0, 1)), nil},
		{"another good moves there", asItIs, stock([][]int{{1, 4}, {9, 9}, {9, 0}, {2, 2}, {9, 0}}, move(1, 1, 0, 9)), []api.Move{move(0, 1, 0, 7)}},
		{"what moves from there is still there", asItIs, stock([][]int{{4, 4}, {9, 0}, {9, 0}, {2, 2}, {9, 0}}, move(0, 0, 3, 4)), nil},
		{"what is to move from behind is not to be had", asItIs, stock([][]int{{0, 4}, {9, 0}, {0, 0}, {2, 2}, {0, 0}}, move(0, 1, 2, 7)), []api.Move{move(0, 1, 0, 2)}},
	}
}

// withRoom are those in which there is not room for all.
func withRoom() []filled {
	roomy := func(room int) func(p *api.Plan) { return func(p *api.Plan) { p.Bins[0].Room = room } }
	on := func(first, second int) api.State {
		return stock([][]int{{first, second}, {3, 9}, {9, 0}, {2, 2}, {0, 0}})
	}
	return []filled{
		{"seven of size 2 in 14", roomy(28), on(1, 4), []api.Move{move(0, 1, 0, 3), move(0, 2, 0, 4)}},
		{"six of size 2 in 13", roomy(27), on(1, 4), []api.Move{move(0, 1, 0, 3), move(0, 2, 0, 3)}},
		{"three of size 2 in 7", roomy(21), on(1, 4), []api.Move{move(0, 1, 0, 3)}},
		{"one of size 2 in 2", roomy(16), on(1, 4), []api.Move{move(0, 1, 0, 1)}},
		{"none of size 2 in 1", roomy(15), on(1, 4), nil},
		{"none in 0", roomy(14), on(1, 4), nil},
		{"none in less than 0", roomy(13), on(1, 4), nil},
		{"none in far less than 0", roomy(0), on(1, 4), nil},
		{"two of size 3 in 8", roomy(19), on(4, 1), []api.Move{move(1, 1, 0, 2)}},
		{"none of size 3 in 2", roomy(13), on(4, 1), nil},
		{"the first good takes the room", roomy(20), on(0, 0), []api.Move{move(0, 1, 0, 3), move(0, 2, 0, 5), move(1, 1, 0, 1)}},
		{"what moves there takes room", roomy(28),
			stock([][]int{{1, 4}, {3, 9}, {9, 0}, {2, 2}, {0, 0}}, move(1, 1, 0, 3)), []api.Move{move(0, 1, 0, 2)}},
		{"what moves from there takes room still", roomy(18),
			stock([][]int{{1, 4}, {3, 9}, {9, 0}, {2, 2}, {0, 0}}, move(1, 0, 1, 4)), []api.Move{move(0, 1, 0, 2)}},
	}
}

func TestI1Fill(t *testing.T) {
	for _, c := range slices.Concat(ordinary(), withMoves(), withRoom()) {
		p := lane()
		c.turn(&p)
		want := c.s
		want.Moves = slices.Concat(c.s.Moves, c.added)
		s, e := fill.Fill(p, c.s)
		if e != api.OK || !slices.Equal(s.Moves, want.Moves) {
			t.Errorf("%s: Fill has %v %d, must have %v", c.name, s.Moves, e, want.Moves)
		}
		s.Moves, want.Moves = nil, nil
		if !reflect.DeepEqual(s, want) {
			t.Errorf("%s: beside its moves Fill is\n%v, must be\n%v", c.name, s, want)
		}
	}
}

func TestI1WhatIsFilledIsRight(t *testing.T) {
	for _, c := range slices.Concat(ordinary(), withMoves(), withRoom()) {
		p := lane()
		c.turn(&p)
		s, _ := fill.Fill(p, c.s)
		if e := state.Check(p, s); e != api.OK {
			t.Errorf("%s: Check of what comes is %d", c.name, e)
		}
		for bin := range p.Bins {
			before, _ := state.Free(p, c.s, bin)
			if after, _ := state.Free(p, s, bin); after < min(before, 0) {
				t.Errorf("%s: bin %d has %d free, and had %d", c.name, bin, after, before)
			}
		}
	}
}

// What is held is not to be had: of the first good two are.
func TestI1FillBesideHolds(t *testing.T) {
	s := sample.State()
	s.Moves = nil
	s.Orders[1] = api.Order{Kind: api.Released, Lines: []api.Line{{Want: 9, Back: 4}}}
	s.Holds = append(s.Holds, api.Hold{Order: 1, Line: 0, Bin: 0, N: 5})
	x, e := fill.Fill(sample.Plan(), s)
	if want := []api.Move{move(0, 0, 1, 2)}; e != api.OK || !slices.Equal(x.Moves, want) || !slices.Equal(x.Holds, s.Holds) {
		t.Errorf("Fill has %v %v %d, must have %v", x.Moves, x.Holds, e, want)
	}
}

func TestI1NothingToFill(t *testing.T) {
	s, e := fill.Fill(sample.Plan(), sample.State())
	if e != api.OK || !reflect.DeepEqual(s, sample.State()) {
		t.Errorf("Fill is %v %d", s, e)
	}
}

func TestI1FillAgainAddsNothing(t *testing.T) {
	once, _ := fill.Fill(lane(), stock([][]int{{0, 0}, {20, 20}, {0, 0}, {0, 0}, {0, 0}}))
	twice, e := fill.Fill(lane(), once)
	if e != api.OK || len(once.Moves) != 4 || !reflect.DeepEqual(twice, once) {
		t.Errorf("Fill is\n%v %d, must be\n%v", twice, e, once)
	}
}

// The moves that there are take from the front, where nothing is lacked: what is to be added does not hang on them.
func TestI1NoMoreThanMaxMoves(t *testing.T) {
	on := [][]int{{0, 0}, {1, 1}, {2, 2}, {9, 9}, {3, 3}}
	all := []api.Move{move(0, 1, 0, 1), move(0, 2, 0, 2), move(0, 4, 0, 3), move(1, 1, 0, 1), move(1, 2, 0, 2), move(1, 4, 0, 3)}
	for n := range api.MaxMoves + 1 {
		there := slices.Repeat([]api.Move{move(0, 3, 1, 1)}, n)
		want := slices.Concat(there, all[:min(len(all), api.MaxMoves-n)])
		s, e := fill.Fill(lane(), stock(on, there...))
		if e != api.OK || !slices.Equal(s.Moves, want) || state.Check(lane(), s) != api.OK {
			t.Errorf("with %d moves Fill has %v %d, must have %v", n, s.Moves, e, want)
		}
	}
}

func TestI1FillAddsAsManyAsMayBe(t *testing.T) {
	p := lane()
	p.Sizes = []int{1, 1, 1}
	s, e := fill.Fill(p, stock([][]int{{0, 0, 0}, {1, 1, 1}, {2, 2, 2}, {0, 0, 0}, {9, 9, 9}}))
	want := []api.Move{
		move(0, 1, 0, 1), move(0, 2, 0, 2), move(0, 4, 0, 5), move(1, 1, 0, 1), move(1, 2, 0, 2), move(1, 4, 0, 5),
		move(2, 1, 0, 1), move(2, 2, 0, 2),
	}
	if e != api.OK || !slices.Equal(s.Moves, want) {
		t.Errorf("Fill has %v %d, must have %v", s.Moves, e, want)
	}
}

// moving has three moves; of the last one 200 lie where it goes to, but for two.
func moving() api.State {
	return stock([][]int{{1, 4}, {9, 9}, {9, 9}, {198, 2}, {9, 0}}, move(0, 1, 0, 5), move(1, 2, 0, 4), move(0, 4, 3, 9))
}

func TestI2Moved(t *testing.T) {
	cases := []struct {
		k, n  int
		on    [][]int
		moves []api.Move
	}{
		{0, 5, [][]int{{6, 4}, {4, 9}, {9, 9}, {198, 2}, {9, 0}}, []api.Move{move(1, 2, 0, 4), move(0, 4, 3, 9)}},
		{0, 1, [][]int{{2, 4}, {8, 9}, {9, 9}, {198, 2}, {9, 0}}, []api.Move{move(1, 2, 0, 4), move(0, 4, 3, 9)}},
		{0, 0, [][]int{{1, 4}, {9, 9}, {9, 9}, {198, 2}, {9, 0}}, []api.Move{move(1, 2, 0, 4), move(0, 4, 3, 9)}},
		{1, 3, [][]int{{1, 7}, {9, 9}, {9, 6}, {198, 2}, {9, 0}}, []api.Move{move(0, 1, 0, 5), move(0, 4, 3, 9)}},
		{2, 2, [][]int{{1, 4}, {9, 9}, {9, 9}, {200, 2}, {7, 0}}, []api.Move{move(0, 1, 0, 5), move(1, 2, 0, 4)}},
	}
	for _, c := range cases {
		want := moving()
		want.On, want.Moves = c.on, c.moves
		s, e := fill.Moved(lane(), moving(), c.k, c.n)
		if e != api.OK || !reflect.DeepEqual(s, want) {
			t.Errorf("Moved of %d, %d, is\n%v %d, must be\n%v", c.k, c.n, s, e, want)
		}
		if e := state.Check(lane(), s); e != api.OK {
			t.Errorf("Moved of %d, %d: Check of what comes is %d", c.k, c.n, e)
		}
	}
}

// Room is not asked: it was when the move was made.
func TestI2MovedToABinThatIsFull(t *testing.T) {
	p := lane()
	p.Bins[0].Room = 0
	if s, e := fill.Moved(p, moving(), 0, 5); e != api.OK || s.On[0][0] != 6 {
		t.Errorf("Moved is %v %d", s, e)
	}
}

func TestI2MovedBesideHolds(t *testing.T) {
	want := sample.State()
	want.On[0][0], want.On[1][0], want.Moves = 5, 7, want.Moves[:0]
	s, e := fill.Moved(sample.Plan(), sample.State(), 0, 4)
	if e != api.OK || !reflect.DeepEqual(s, want) {
		t.Errorf("Moved is\n%v %d, must be\n%v", s, e, want)
	}
}

func TestI2Errors(t *testing.T) {
	cases := []struct {
		name string
		k, n int
		want api.Errno
	}{
		{"a move below", -1, 0, api.ErrNone},
		{"a move above", 3, 0, api.ErrNone},
		{"moves far off", math.MinInt, 1, api.ErrNone},
		{"moves farther off", math.MaxInt, 1, api.ErrNone},
		{"no such move, less than nothing", 3, -1, api.ErrNone},
		{"less than nothing", 0, -1, api.ErrRange},
		{"more than it has", 0, 6, api.ErrRange},
		{"more than it has, of another one", 1, 5, api.ErrRange},
		{"far too little", 0, math.MinInt, api.ErrRange},
		{"far too much", 0, math.MaxInt, api.ErrRange},
		{"one more than may lie there", 2, 3, api.ErrMany},
		{"all, and more than may lie there", 2, 9, api.ErrMany},
		{"more than it has, and than may lie there", 2, 10, api.ErrRange},
	}
	for _, c := range cases {
		if s, e := fill.Moved(lane(), moving(), c.k, c.n); e != c.want || !reflect.DeepEqual(s, api.State{}) {
			t.Errorf("%s: Moved is %v %d, must be nothing and %d", c.name, s, e, c.want)
		}
	}
	none, _ := state.Begin(lane())
	if s, e := fill.Moved(lane(), none, 0, 0); e != api.ErrNone || !reflect.DeepEqual(s, api.State{}) {
		t.Errorf("Moved where there are no moves is %v %d", s, e)
	}
}

func TestIStatesErrorsFirst(t *testing.T) {
	for _, c := range sample.Wrongs() {
		if s, e := fill.Fill(c.Plan, c.State); e != c.Errno || !reflect.DeepEqual(s, api.State{}) {
			t.Errorf("Fill is %v %d, must be nothing and %d", s, e, c.Errno)
		}
		for _, k := range []int{0, 1, -9, math.MaxInt} {
			if s, e := fill.Moved(c.Plan, c.State, k, k); e != c.Errno || !reflect.DeepEqual(s, api.State{}) {
				t.Errorf("Moved of %d is %v %d, must be nothing and %d", k, s, e, c.Errno)
			}
		}
	}
}
