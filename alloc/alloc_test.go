package alloc_test

import (
	"math"
	"reflect"
	"testing"

	"weighhouse/alloc"
	"weighhouse/api"
	"weighhouse/sample"
	"weighhouse/state"
)

// lane has four bins, the second and the last one in front.
func lane() api.Plan {
	return api.Plan{
		Bins:  []api.Bin{{Room: 90}, {Front: true, Room: 90}, {Room: 90}, {Front: true, Room: 90}},
		Sizes: []int{1, 2},
	}
}

// wanting has 2, 3, 4 and 1 of the second good to be had, bin by bin; the second line of the second order lacks 12, and holds 1 in the second bin.
func wanting() api.State {
	return api.State{
		On: [][]int{{7, 5}, {7, 5}, {7, 4}, {7, 1}},
		Orders: []api.Order{
			{Kind: api.Released, Lines: []api.Line{{Good: 1, Want: 3, Back: 2}}},
			{Kind: api.Released, Lines: []api.Line{{Good: 0, Want: 1, Got: 1}, {Good: 1, Want: 13, Back: 12}}},
		},
		Holds: []api.Hold{{Order: 0, Line: 0, Bin: 1, N: 1}, {Order: 1, Line: 1, Bin: 1, N: 1}},
		Moves: []api.Move{{Good: 1, From: 0, To: 3, N: 3}},
		In:    []int{29, 15}, Out: []int{1, 0}, Fixed: []int{0, 0},
	}
}

// after is wanting with these holds of that line, bin by bin, and so much still in Back.
func after(back int, n ...int) api.State {
	s := wanting()
	s.Orders[1].Lines[1].Back = back
	s.Holds = s.Holds[:1]
	for bin, n := range n {
		if n > 0 {
			s.Holds = append(s.Holds, api.Hold{Order: 1, Line: 1, Bin: bin, N: n})
		}
	}
	return s
}

func TestE1Take(t *testing.T) {
	cases := []struct {
		n, but int
		want   api.State
		left   int
	}{
		{0, -1, after(12, 0, 1, 0, 0), 0},
		{1, -1, after(11, 0, 2, 0, 0), 0},
		{3, -1, after(9, 0, 4, 0, 0), 0},
		{4, -1, after(8, 0, 4, 0, 1), 0},
		{5, -1, after(7, 1, 4, 0, 1), 0},
		{6, -1, after(6, 2, 4, 0, 1), 0},
		{7, -1, after(5, 2, 4, 1, 1), 0},
		{10, -1, after(2, 2, 4, 4, 1), 0},
		{11, -1, after(2, 2, 4, 4, 1), 1},
		{12, -1, after(2, 2, 4, 4, 1), 2},
		{12, 0, after(4, 0, 4, 4, 1), 4},
		{12, 1, after(5, 2, 1, 4, 1), 5},
		{12, 2, after(6, 2, 4, 0, 1), 6},
		{12, 3, after(3, 2, 4, 4, 0), 3},
		{2, 1, after(10, 1, 1, 0, 1), 0},
		{0, 2, after(12, 0, 1, 0, 0), 0},
	}
	for _, c := range cases {
		s, left, e := alloc.Take(lane(), wanting(), 1, 1, c.n, c.but)
		if !reflect.DeepEqual(s, c.want) || left != c.left || e != api.OK {
			t.Errorf("Take of %d but from %d is\n%v %d %d, must be\n%v %d 0", c.n, c.but, s, left, e, c.want, c.left)
		}
		if e := state.Check(lane(), s); e != api.OK {
			t.Errorf("Take of %d but from %d: Check of what comes is %d", c.n, c.but, e)
		}
	}
}

func TestE1TakeOfTheExample(t *testing.T) {
	s := sample.State()
	s.Orders[1] = api.Order{Kind: api.Released, Lines: []api.Line{{Good: 0, Want: 4, Back: 4}}}
	x, left, e := alloc.Take(sample.Plan(), s, 1, 0, 4, -1)
	if e != api.OK || left != 2 || x.Orders[1].Lines[0].Back != 2 || len(x.Holds) != 4 ||
		x.Holds[3] != (api.Hold{Order: 1, Line: 0, Bin: 0, N: 2}) {
		t.Errorf("Take is %v %d %d", x, left, e)
	}
}

func TestE1NothingIsToBeHad(t *testing.T) {
	s, left, e := alloc.Take(sample.Plan(), sample.State(), 0, 1, 3, -1)
	if e != api.OK || left != 3 || !reflect.DeepEqual(s, sample.State()) {
		t.Errorf("Take is %v %d %d", s, left, e)
	}
}

func TestE1AsMuchAsMayBeHeldInABin(t *testing.T) {
	s := sample.State()
	s.On[2][0], s.In[0] = api.MaxUnits, 213
	s.Orders[1] = api.Order{Kind: api.Released, Lines: []api.Line{{Want: 200, Back: 200}}}
	x, left, e := alloc.Take(sample.Plan(), s, 1, 0, 200, 0)
	if e != api.OK || left != 0 || x.Orders[1].Lines[0].Back != 0 || x.Holds[3].N != 200 || x.Holds[3].Bin != 2 {
		t.Errorf("Take is %v %d %d", x, left, e)
	}
}

func TestE1Errors(t *testing.T) {
	entered := sample.State()
	closed := sample.State()
	closed.Orders[1] = api.Order{Kind: api.Closed, Lines: []api.Line{{Want: 4, Back: 4}}}
	cases := []struct {
		name                string
		s                   api.State
		order, line, n, but int
		want                api.Errno
	}{
		{"an order below", entered, -1, 0, 0, -1, api.ErrRange},
		{"an order above", entered, 2, 0, 0, -1, api.ErrRange},
		{"orders far off", entered, math.MinInt, 0, 0, -1, api.ErrRange},
		{"orders farther off", entered, math.MaxInt, 0, 0, -1, api.ErrRange},
		{"a line below", entered, 0, -1, 0, -1, api.ErrRange},
		{"a line above", entered, 0, 2, 0, -1, api.ErrRange},
		{"a line that another order has", entered, 1, 1, 0, -1, api.ErrRange},
		{"lines far off", entered, 0, math.MaxInt, 0, -1, api.ErrRange},
		{"less than nothing", entered, 0, 1, -1, -1, api.ErrRange},
		{"too much", entered, 0, 1, 201, -1, api.ErrRange},
		{"far too little", entered, 0, 1, math.MinInt, -1, api.ErrRange},
		{"far too much", entered, 0, 1, math.MaxInt, -1, api.ErrRange},
		{"a bin below", entered, 0, 1, 1, -2, api.ErrRange},
		{"a bin above", entered, 0, 1, 1, 3, api.ErrRange},
		{"bins far off", entered, 0, 1, 1, math.MinInt, api.ErrRange},
		{"more than is in Back", entered, 0, 1, 4, -1, api.ErrRange},
		{"one, and nothing in Back", entered, 0, 0, 1, -1, api.ErrRange},
		{"an order that is entered", entered, 1, 0, 0, -1, api.ErrDone},
		{"an order that is closed", closed, 1, 0, 0, -1, api.ErrDone},
		{"entered, and more than is in Back", entered, 1, 0, 200, 2, api.ErrDone},
		{"closed, and as much as is in Back", closed, 1, 0, 4, -1, api.ErrDone},
		{"entered, and too much", entered, 1, 0, 201, -1, api.ErrRange},
		{"closed, and no such bin", closed, 1, 0, 0, 3, api.ErrRange},
		{"closed, and no such line", closed, 1, 1, 0, -1, api.ErrRange},
	}
	for _, c := range cases {
		s, left, e := alloc.Take(sample.Plan(), c.s, c.order, c.line, c.n, c.but)
		if e != c.want || left != 0 || !reflect.DeepEqual(s, api.State{}) {
			t.Errorf("%s: Take is %v %d %d, must be nothing and %d", c.name, s, left, e, c.want)
		}
	}
}

func TestE1StatesErrorsFirst(t *testing.T) {
	for _, c := range sample.Wrongs() {
		for _, k := range []int{0, 1, -9, math.MaxInt} {
			s, left, e := alloc.Take(c.Plan, c.State, k, k, k, k)
			if e != c.Errno || left != 0 || !reflect.DeepEqual(s, api.State{}) {
				t.Errorf("Take is %v %d %d, must be nothing and %d", s, left, e, c.Errno)
			}
		}
	}
}

// toBeHad is how many pieces the line's good has in all bins but one.
func toBeHad(s api.State, order, line, but int) int {
	sum := 0
	for bin := range lane().Bins {
		n, _ := state.Avail(lane(), s, bin, s.Orders[order].Lines[line].Good)
		if bin != but {
			sum += n
		}
	}
	return sum
}

func TestE2NothingLiesElsewhereAndWhatIsToldIsRight(t *testing.T) {
	for but := -1; but < 4; but++ {
		for n := range 13 {
			before := wanting()
			s, left, _ := alloc.Take(lane(), before, 1, 1, n, but)
			if had := toBeHad(before, 1, 1, but); left != max(0, n-had) {
				t.Errorf("Take of %d but from %d tells %d, and %d were to be had", n, but, left, had)
			}
			if left > 0 && toBeHad(s, 1, 1, but) != 0 {
				t.Errorf("Take of %d but from %d leaves some that were to be had", n, but)
			}
			if !reflect.DeepEqual([]any{s.On, s.Moves, s.In, s.Out, s.Fixed}, []any{before.On, before.Moves, before.In, before.Out, before.Fixed}) {
				t.Errorf("Take of %d but from %d changes what lies there", n, but)
			}
		}
	}
}

func TestE2TakingAgainGivesTheRest(t *testing.T) {
	first, _, _ := alloc.Take(lane(), wanting(), 1, 1, 5, -1)
	second, left, e := alloc.Take(lane(), first, 1, 1, 7, -1)
	at := after(2, 2, 4, 4, 1)
	if e != api.OK || left != 2 || !reflect.DeepEqual(second, at) {
		t.Errorf("Take is %v %d %d, must be %v 2", second, left, e, at)
	}
}
