package state_test

import (
	"math"
	"reflect"
	"testing"

	"weighhouse/api"
	"weighhouse/sample"
	"weighhouse/state"
)

// turned is the sample with something changed, and what Check must tell of it.
type turned struct {
	name string
	turn func(s *api.State)
	want api.Errno
}

func (c turned) state() api.State {
	s := sample.State()
	c.turn(&s)
	return s
}

func oneLine(kind, good, want, got, back int) api.Order {
	return api.Order{Kind: kind, Lines: []api.Line{{Good: good, Want: want, Got: got, Back: back}}}
}

func move(good, from, to, n int) api.Move {
	return api.Move{Good: good, From: from, To: to, N: n}
}

func hold(order, line, bin, n int) api.Hold {
	return api.Hold{Order: order, Line: line, Bin: bin, N: n}
}

func rightOnes() []turned {
	return []turned{
		{"the sample", func(s *api.State) {}, api.OK},
		{"as many orders as may be", func(s *api.State) {
			s.Orders = append(s.Orders, oneLine(api.Entered, 1, 1, 0, 0), oneLine(api.Closed, 1, 200, 200, 0))
		}, api.OK},
		{"as many lines as may be", func(s *api.State) {
			s.Orders[1].Lines = []api.Line{{Want: 1}, {Want: 200}, {Good: 1, Want: 9}}
		}, api.OK},
		{"as many moves as may be", func(s *api.State) {
			s.On[2][0], s.In[0] = 2, 15
			s.Moves = []api.Move{move(0, 0, 1, 1), move(0, 0, 1, 1), move(0, 0, 2, 1), move(0, 0, 2, 1),
				move(0, 0, 1, 1), move(0, 0, 1, 1), move(0, 0, 1, 1), move(0, 2, 1, 2)}
		}, api.OK},
		{"no lists that need not be", func(s *api.State) {
			s.Orders, s.Holds, s.Moves = nil, nil, nil
		}, api.OK},
		{"as much as may lie there, held whole", func(s *api.State) {
			s.On[0][0], s.In[0], s.Moves = 200, 204, nil
			s.Orders[0].Lines[0].Want, s.Holds[0].N = 200, 196
			s.Orders[1] = oneLine(api.Released, 0, 200, 0, 196)
			s.Holds = append(s.Holds, hold(1, 0, 0, 4))
		}, api.OK},
		{"as much as may move", func(s *api.State) {
			s.On[2][0], s.In[0] = 200, 213
			s.Moves = append(s.Moves, move(0, 2, 0, 200))
		}, api.OK},
		{"more to a bin than it has room", func(s *api.State) {
			s.On[2][0], s.In[0] = 200, 213
			s.Moves = append(s.Moves, move(0, 2, 1, 200))
		}, api.OK},
		{"fixed below 0", func(s *api.State) { s.In[0], s.Fixed[0] = 14, -1 }, api.OK},
		{"fixed above 0", func(s *api.State) { s.In[0], s.Fixed[0] = 11, 2 }, api.OK},
		{"the greatest sums", func(s *api.State) { s.In[0], s.Out[0] = api.MaxSum, api.MaxSum-12 }, api.OK},
		{"the greatest Out and Fixed", func(s *api.State) {
			s.In[0], s.Out[0], s.Fixed[0] = 12, api.MaxSum, api.MaxSum
		}, api.OK},
		{"the least Fixed", func(s *api.State) {
			s.In[1], s.Out[1], s.Fixed[1] = api.MaxSum, 0, -api.MaxSum
			s.On[2][1], s.Holds, s.Orders[0].Lines[1].Back = 0, s.Holds[:2], 9
		}, api.OK},
		{"closed, all got", func(s *api.State) { s.Orders[1] = oneLine(api.Closed, 0, 4, 4, 0) }, api.OK},
		{"closed, not all got", func(s *api.State) { s.Orders[1] = oneLine(api.Closed, 0, 4, 1, 3) }, api.OK},
		{"released, nothing to be had", func(s *api.State) { s.Orders[1] = oneLine(api.Released, 0, 4, 0, 4) }, api.OK},
		{"released, one line got whole", func(s *api.State) {
			s.Orders[0].Lines[0].Got, s.Holds = 6, s.Holds[2:]
		}, api.OK},
		{"two holds and a move of all that lies there", func(s *api.State) {
			s.Orders[1], s.Moves[0].N = oneLine(api.Released, 0, 4, 1, 2), 6
			s.Holds = append(s.Holds, hold(1, 0, 0, 1))
		}, api.OK},
	}
}

func manyOnes() []turned {
	return []turned{
		{"an order too many", func(s *api.State) {
			one := oneLine(api.Entered, 0, 1, 0, 0)
			s.Orders = append(s.Orders, one, one, one)
		}, api.ErrMany},
		{"orders too many, all of them bad", func(s *api.State) { s.Orders = make([]api.Order, 5) }, api.ErrMany},
		{"very many orders", func(s *api.State) { s.Orders = make([]api.Order, 100000) }, api.ErrMany},
		{"a move too many", func(s *api.State) {
			s.Moves = nil
			for range 9 {
				s.Moves = append(s.Moves, move(0, 0, 1, 1))
			}
			s.On[0][0], s.In[0] = 11, 15
		}, api.ErrMany},
		{"moves too many, all of them bad", func(s *api.State) { s.Moves = make([]api.Move, 9) }, api.ErrMany},
		{"no lines", func(s *api.State) { s.Orders[1].Lines = nil }, api.ErrMany},
		{"no lines, and a bad kind", func(s *api.State) { s.Orders[1] = api.Order{Kind: 3} }, api.ErrMany},
		{"a line too many", func(s *api.State) {
			s.Orders[1].Lines = []api.Line{{Want: 1}, {Want: 1}, {Want: 1}, {Want: 1}}
		}, api.ErrMany},
		{"bad lines too many of the first one", func(s *api.State) { s.Orders[0].Lines = make([]api.Line, 4) }, api.ErrMany},
		{"no lines, and no sums", func(s *api.State) { s.Orders[1].Lines, s.In, s.Out = nil, nil, nil }, api.ErrMany},
	}
}

func badRowsAndOrders() []turned {
	return []turned{
		{"no rows", func(s *api.State) { s.On = nil }, api.ErrForm},
		{"a row too few, and no lines", func(s *api.State) { s.On, s.Orders[0].Lines = s.On[:2], nil }, api.ErrForm},
		{"a row too many", func(s *api.State) { s.On = append(s.On, []int{0, 0}) }, api.ErrForm},
		{"a number too few", func(s *api.State) { s.On[0] = []int{9} }, api.ErrForm},
		{"a number too great", func(s *api.State) { s.On[0][1], s.In[1] = 201, 207 }, api.ErrForm},
		{"a kind below", func(s *api.State) { s.Orders[1].Kind = -1 }, api.ErrForm},
		{"a kind above", func(s *api.State) { s.Orders[1].Kind = 3 }, api.ErrForm},
		{"a good below", func(s *api.State) { s.Orders[1].Lines[0].Good = -1 }, api.ErrForm},
		{"a good above", func(s *api.State) { s.Orders[1].Lines[0].Good = 2 }, api.ErrForm},
		{"a good above, of a line that holds", func(s *api.State) { s.Orders[0].Lines[0].Good = 2 }, api.ErrForm},
		{"nothing wanted", func(s *api.State) { s.Orders[1].Lines[0].Want = 0 }, api.ErrForm},
		{"too much wanted", func(s *api.State) { s.Orders[1].Lines[0].Want = 201 }, api.ErrForm},
		{"less than nothing got", func(s *api.State) { s.Orders[1].Lines[0].Got = -1 }, api.ErrForm},
		{"more got than wanted", func(s *api.State) { s.Orders[1].Lines[0].Got = 5 }, api.ErrForm},
		{"less than nothing back", func(s *api.State) { s.Orders[1].Lines[0].Back = -1 }, api.ErrForm},
		{"more back than wanted", func(s *api.State) { s.Orders[1].Lines[0].Back = 5 }, api.ErrForm},
		{"got and back that are Want together", func(s *api.State) { s.Orders[1] = oneLine(api.Closed, 0, 4, 5, -1) }, api.ErrForm},
		{"back and got that are Want together", func(s *api.State) { s.Orders[1] = oneLine(api.Closed, 0, 4, -1, 5) }, api.ErrForm},
		{"a bad second line", func(s *api.State) { s.Orders[0].Lines[1].Want = 201 }, api.ErrForm},
	}
}

func badHoldsAndMoves() []turned {
	return []turned{
		{"nothing held", func(s *api.State) { s.Holds[0].N = 0 }, api.ErrForm},
		{"holds fall", func(s *api.State) { s.Holds[0], s.Holds[1] = s.Holds[1], s.Holds[0] }, api.ErrForm},
		{"one hold twice", func(s *api.State) { s.Holds[1].Bin = 0 }, api.ErrForm},
		{"no such order", func(s *api.State) { s.Holds[2].Order = 2 }, api.ErrForm},
		{"no such line", func(s *api.State) { s.Holds[2].Line = 2 }, api.ErrForm},
		{"no such line of that order", func(s *api.State) { s.Holds[2].Order = 1 }, api.ErrForm},
		{"no such bin", func(s *api.State) { s.Holds[2].Bin = 3 }, api.ErrForm},
		{"holds, and no orders", func(s *api.State) { s.Orders = nil }, api.ErrForm},
		{"a move of a good below", func(s *api.State) { s.Moves[0].Good = -1 }, api.ErrForm},
		{"a move of a good above", func(s *api.State) { s.Moves[0].Good = 2 }, api.ErrForm},
		{"from a bin below", func(s *api.State) { s.Moves[0].From = -1 }, api.ErrForm},
		{"from a bin above", func(s *api.State) { s.Moves[0].From = 3 }, api.ErrForm},
		{"to a bin below", func(s *api.State) { s.Moves[0].To = -1 }, api.ErrForm},
		{"to a bin above", func(s *api.State) { s.Moves[0].To = 3 }, api.ErrForm},
		{"to where it is from", func(s *api.State) { s.Moves[0].To = 0 }, api.ErrForm},
		{"nothing moves", func(s *api.State) { s.Moves[0].N = 0 }, api.ErrForm},
		{"less than nothing moves", func(s *api.State) { s.Moves[0].N = -1 }, api.ErrForm},
		{"too much moves", func(s *api.State) { s.Moves[0].N = 201 }, api.ErrForm},
		{"a bad second move", func(s *api.State) { s.Moves = append(s.Moves, api.Move{}) }, api.ErrForm},
	}
}

func badSums() []turned {
	return []turned{
		{"no In", func(s *api.State) { s.In = nil }, api.ErrForm},
		{"no Out", func(s *api.State) { s.Out = nil }, api.ErrForm},
		{"no Fixed", func(s *api.State) { s.Fixed = nil }, api.ErrForm},
		{"In too short", func(s *api.State) { s.In = s.In[:1] }, api.ErrForm},
		{"Out too long", func(s *api.State) { s.Out = append(s.Out, 0) }, api.ErrForm},
		{"Fixed too long", func(s *api.State) { s.Fixed = append(s.Fixed, 0) }, api.ErrForm},
		{"In below", func(s *api.State) { s.In[0], s.Fixed[0] = -1, 14 }, api.ErrForm},
		{"In above", func(s *api.State) { s.In[0], s.Out[0] = api.MaxSum+1, api.MaxSum-11 }, api.ErrForm},
		{"Out below", func(s *api.State) { s.In[0], s.Out[0] = 11, -1 }, api.ErrForm},
		{"Out above", func(s *api.State) { s.In[0], s.Out[0], s.Fixed[0] = 13, api.MaxSum+1, api.MaxSum }, api.ErrForm},
		{"Fixed below", func(s *api.State) {
			s.In[1], s.Out[1], s.Fixed[1] = api.MaxSum, 0, -api.MaxSum-1
		}, api.ErrForm},
		{"Fixed above", func(s *api.State) {
			s.In[0], s.Out[0], s.Fixed[0] = 11, api.MaxSum, api.MaxSum+1
		}, api.ErrForm},
		{"a sum of the second good below", func(s *api.State) { s.Out[1] = -1 }, api.ErrForm},
		{"bad form behind wrong sums", func(s *api.State) { s.On[0][0], s.Holds[0].N, s.Fixed = 0, 6, nil }, api.ErrForm},
	}
}

func wrongOnes() []turned {
	return []turned{
		{"less lies there than came", func(s *api.State) { s.On[0][0] = 8 }, api.ErrSum},
		{"more lies there than came", func(s *api.State) { s.On[0][1] = 1 }, api.ErrSum},
		{"more came", func(s *api.State) { s.In[0] = 14 }, api.ErrSum},
		{"more went", func(s *api.State) { s.Out[0] = 2 }, api.ErrSum},
		{"fixed the other way round", func(s *api.State) { s.In[0], s.Fixed[0] = 14, 1 }, api.ErrSum},
		{"the second good's sums", func(s *api.State) { s.In[1] = 5 }, api.ErrSum},
		{"more held than lies there", func(s *api.State) {
			s.Orders[0].Lines[0].Want, s.Holds[0].N = 9, 5
		}, api.ErrSum},
		{"more moves than lies there", func(s *api.State) { s.Moves[0].N = 8 }, api.ErrSum},
		{"two moves of more than lies there", func(s *api.State) {
			s.Moves = append(s.Moves, move(0, 0, 2, 3))
		}, api.ErrSum},
		{"a move of what lies elsewhere", func(s *api.State) { s.Moves[0] = move(0, 2, 0, 1) }, api.ErrSum},
		{"a move of another good", func(s *api.State) { s.Moves[0].Good = 1 }, api.ErrSum},
		{"more held of the second good", func(s *api.State) {
			s.Orders[0].Lines[1].Back, s.Holds[2].N = 2, 7
		}, api.ErrSum},
		{"two orders hold more than lies there", func(s *api.State) {
			s.Orders[1], s.Holds = oneLine(api.Released, 0, 4, 0, 1), append(s.Holds, hold(1, 0, 0, 3))
		}, api.ErrSum},
		{"entered, and got", func(s *api.State) { s.Orders[1].Lines[0].Got = 4 }, api.ErrSum},
		{"entered, and back", func(s *api.State) { s.Orders[1].Lines[0].Back = 4 }, api.ErrSum},
		{"entered, and held", func(s *api.State) {
			s.Orders[1], s.Holds = oneLine(api.Entered, 0, 2, 0, 0), append(s.Holds, hold(1, 0, 0, 2))
		}, api.ErrSum},
		{"released, and something lacks", func(s *api.State) { s.Orders[0].Lines[1].Back = 2 }, api.ErrSum},
		{"released, and too much back", func(s *api.State) { s.Orders[0].Lines[0].Back = 1 }, api.ErrSum},
		{"released, and too much got", func(s *api.State) { s.Orders[0].Lines[0].Got = 2 }, api.ErrSum},
		{"released, and nothing taken", func(s *api.State) { s.Orders[1].Kind = api.Released }, api.ErrSum},
		{"closed, and something lacks", func(s *api.State) { s.Orders[1] = oneLine(api.Closed, 0, 4, 1, 2) }, api.ErrSum},
		{"closed, and too much back", func(s *api.State) { s.Orders[1] = oneLine(api.Closed, 0, 4, 4, 1) }, api.ErrSum},
		{"closed, and held", func(s *api.State) { s.Orders[0].Kind = api.Closed }, api.ErrSum},
		{"closed, and held beside what is wanted", func(s *api.State) {
			s.Orders[1], s.Holds = oneLine(api.Closed, 0, 4, 4, 0), append(s.Holds, hold(1, 0, 0, 2))
		}, api.ErrSum},
		{"released, and all got", func(s *api.State) { s.Orders[1] = oneLine(api.Released, 0, 4, 4, 0) }, api.ErrSum},
		{"released, and all lines got", func(s *api.State) {
			s.Orders[0].Lines[0].Got, s.Orders[0].Lines[1] = 6, api.Line{Good: 1, Want: 9, Got: 9}
			s.Holds = nil
		}, api.ErrSum},
	}
}

func wrong() []turned {
	var all []turned
	for _, l := range [][]turned{manyOnes(), badRowsAndOrders(), badHoldsAndMoves(), badSums(), wrongOnes()} {
		all = append(all, l...)
	}
	return all
}

func TestD1Check(t *testing.T) {
	for _, c := range append(rightOnes(), wrong()...) {
		if e := state.Check(sample.Plan(), c.state()); e != c.want {
			t.Errorf("%s: Check is %d, must be %d", c.name, e, c.want)
		}
	}
}

func TestD1CheckOfTheSamplesWrongOnes(t *testing.T) {
	for _, c := range sample.Wrongs() {
		if e := state.Check(c.Plan, c.State); e != c.Errno {
			t.Errorf("Check is %d, must be %d", e, c.Errno)
		}
	}
}

type badPlan struct {
	name string
	p    api.Plan
	want api.Errno
}

func badPlans() []badPlan {
	low, size := sample.Plan(), sample.Plan()
	low.Bins[1].Low = 9
	size.Sizes[0] = 0
	return []badPlan{
		{"nothing", api.Plan{}, api.ErrMany},
		{"no goods", api.Plan{Bins: make([]api.Bin, 3)}, api.ErrMany},
		{"Low above High", low, api.ErrRange},
		{"a piece without size", size, api.ErrRange},
	}
}

func TestD1PlansErrorsFirst(t *testing.T) {
	for _, c := range badPlans() {
		if s, e := state.Begin(c.p); e != c.want || !reflect.DeepEqual(s, api.State{}) {
			t.Errorf("%s: Begin is %v %d, must be nothing and %d", c.name, s, e, c.want)
		}
		for _, s := range []api.State{{}, sample.State()} {
			if e := state.Check(c.p, s); e != c.want {
				t.Errorf("%s: Check is %d, must be %d", c.name, e, c.want)
			}
			if n, e := state.Avail(c.p, s, 9, 9); n != 0 || e != c.want {
				t.Errorf("%s: Avail is %d %d, must be 0 %d", c.name, n, e, c.want)
			}
			if n, e := state.Free(c.p, s, 9); n != 0 || e != c.want {
				t.Errorf("%s: Free is %d %d, must be 0 %d", c.name, n, e, c.want)
			}
		}
	}
}

func TestD1Begin(t *testing.T) {
	s, e := state.Begin(sample.Plan())
	zero := []int{0, 0}
	want := api.State{On: [][]int{zero, zero, zero}, In: zero, Out: zero, Fixed: zero}
	if e != api.OK || len(s.Orders)+len(s.Holds)+len(s.Moves) != 0 ||
		!reflect.DeepEqual(s.On, want.On) || !reflect.DeepEqual([][]int{s.In, s.Out, s.Fixed}, want.On) {
		t.Errorf("Begin is %v %d, must be %v", s, e, want)
	}
	if e := state.Check(sample.Plan(), s); e != api.OK {
		t.Errorf("Check of what is begun is %d", e)
	}
	if again, _ := state.Begin(sample.Plan()); again.On[0][0] != 0 || again.In[0] != 0 {
		t.Errorf("the second one is not as the first one: %v", again)
	}
}

func TestD1BeginOfTheLeastAndTheGreatestPlan(t *testing.T) {
	plans := []api.Plan{
		{Bins: make([]api.Bin, 1), Sizes: []int{1}},
		{Bins: make([]api.Bin, api.MaxBins), Sizes: []int{9, 9, 9}},
	}
	for _, p := range plans {
		s, e := state.Begin(p)
		if e != api.OK || len(s.On) != len(p.Bins) || len(s.Fixed) != len(p.Sizes) || state.Check(p, s) != api.OK {
			t.Errorf("Begin is %v %d", s, e)
		}
	}
}

func TestD2OthersTellCheckFirst(t *testing.T) {
	for _, c := range wrong() {
		for _, k := range []int{0, -1, 3, math.MaxInt} {
			if n, e := state.Avail(sample.Plan(), c.state(), k, k); n != 0 || e != c.want {
				t.Errorf("%s: Avail is %d %d, must be 0 %d", c.name, n, e, c.want)
			}
			if n, e := state.Free(sample.Plan(), c.state(), k); n != 0 || e != c.want {
				t.Errorf("%s: Free is %d %d, must be 0 %d", c.name, n, e, c.want)
			}
		}
	}
}

func TestD2OthersTellOfNoRightOne(t *testing.T) {
	for _, c := range rightOnes() {
		if _, e := state.Avail(sample.Plan(), c.state(), 0, 0); e != api.OK {
			t.Errorf("%s: Avail tells %d", c.name, e)
		}
		if _, e := state.Free(sample.Plan(), c.state(), 0); e != api.OK {
			t.Errorf("%s: Free tells %d", c.name, e)
		}
	}
}

// lively is the sample with more of both goods, two moves to one bin, and one that holds of both goods there.
func lively() api.State {
	s := sample.State()
	s.On = [][]int{{9, 7}, {3, 4}, {8, 6}}
	s.In = []int{21, 17}
	s.Moves = append(s.Moves, move(1, 0, 1, 2), move(0, 2, 0, 3), move(1, 0, 2, 1))
	s.Orders[0].Lines[1].Back = 1
	s.Holds = append([]api.Hold{}, s.Holds[0], s.Holds[1], hold(0, 1, 0, 2), s.Holds[2])
	return s
}

func TestD2Avail(t *testing.T) {
	cases := []struct {
		s               api.State
		bin, good, want int
		e               api.Errno
	}{
		{sample.State(), 0, 0, 2, api.OK}, {sample.State(), 1, 0, 0, api.OK}, {sample.State(), 2, 0, 0, api.OK},
		{sample.State(), 0, 1, 0, api.OK}, {sample.State(), 2, 1, 0, api.OK},
		{lively(), 0, 0, 2, api.OK}, {lively(), 1, 0, 0, api.OK}, {lively(), 2, 0, 5, api.OK},
		{lively(), 0, 1, 2, api.OK}, {lively(), 1, 1, 4, api.OK}, {lively(), 2, 1, 0, api.OK},
		{lively(), -1, 0, 0, api.ErrRange}, {lively(), 3, 0, 0, api.ErrRange},
		{lively(), 0, -1, 0, api.ErrRange}, {lively(), 0, 2, 0, api.ErrRange},
		{lively(), math.MinInt, 0, 0, api.ErrRange}, {lively(), 0, math.MaxInt, 0, api.ErrRange},
	}
	for _, c := range cases {
		if n, e := state.Avail(sample.Plan(), c.s, c.bin, c.good); n != c.want || e != c.e {
			t.Errorf("Avail of %d %d is %d %d, must be %d %d", c.bin, c.good, n, e, c.want, c.e)
		}
	}
}

func TestD2Free(t *testing.T) {
	crowded := sample.State()
	crowded.On[1], crowded.In[1] = []int{3, 200}, 206
	cases := []struct {
		s         api.State
		bin, want int
		e         api.Errno
	}{
		{sample.State(), 0, 82, api.OK}, {sample.State(), 1, 14, api.OK}, {sample.State(), 2, 42, api.OK},
		{lively(), 0, 100 - 18 - 21 - 6, api.OK}, {lively(), 1, 30 - 6 - 12 - 10 - 6, api.OK},
		{lively(), 2, 60 - 16 - 18 - 3, api.OK},
		{crowded, 1, 30 - 6 - 600 - 10, api.OK},
		{lively(), -1, 0, api.ErrRange}, {lively(), 3, 0, api.ErrRange},
		{lively(), math.MinInt, 0, api.ErrRange}, {lively(), math.MaxInt, 0, api.ErrRange},
	}
	for _, c := range cases {
		if n, e := state.Free(sample.Plan(), c.s, c.bin); n != c.want || e != c.e {
			t.Errorf("Free of %d is %d %d, must be %d %d", c.bin, n, e, c.want, c.e)
		}
	}
}

// Fewer bins than goods: a bin is not asked as a good, nor a good as a bin.
func TestD2BinsAreNotGoods(t *testing.T) {
	p := api.Plan{Bins: make([]api.Bin, 2), Sizes: []int{1, 2, 3}}
	s, _ := state.Begin(p)
	if _, e := state.Avail(p, s, 1, 2); e != api.OK {
		t.Errorf("Avail of the third good tells %d", e)
	}
	if _, e := state.Avail(p, s, 2, 1); e != api.ErrRange {
		t.Errorf("Avail of a third bin tells %d", e)
	}
	if _, e := state.Free(p, s, 2); e != api.ErrRange {
		t.Errorf("Free of a third bin tells %d", e)
	}
}
