package book_test

import (
	"math"
	"reflect"
	"slices"
	"testing"

	"weighhouse/api"
	"weighhouse/book"
	"weighhouse/count"
	"weighhouse/fill"
	"weighhouse/pick"
	"weighhouse/recv"
	"weighhouse/sample"
	"weighhouse/state"
	"weighhouse/wave"
)

// lane has three bins, the last one in front, and a good of which there is nothing.
func lane() api.Plan {
	return api.Plan{Bins: []api.Bin{{Room: 900}, {Room: 900}, {Front: true, Room: 900}}, Sizes: []int{1, 2, 3}}
}

// busy has orders of each kind; of the first good two lines of one order hold some, and one line does in two bins.
func busy() api.State {
	return api.State{
		On: [][]int{{15, 4, 0}, {6, 2, 0}, {5, 1, 0}},
		Orders: []api.Order{
			{Kind: api.Closed, Lines: []api.Line{{Good: 0, Want: 4, Got: 1, Back: 3}, {Good: 1, Want: 2, Got: 2}}},
			{Kind: api.Released, Lines: []api.Line{{Good: 0, Want: 9, Got: 1, Back: 2}, {Good: 0, Want: 4}, {Good: 1, Want: 8, Back: 5}}},
			{Kind: api.Entered, Lines: []api.Line{{Good: 0, Want: 100}}},
			{Kind: api.Closed, Lines: []api.Line{{Good: 2, Want: 7, Back: 7}}},
		},
		Holds: []api.Hold{
			{Order: 1, Line: 0, Bin: 0, N: 5}, {Order: 1, Line: 0, Bin: 2, N: 1}, {Order: 1, Line: 1, Bin: 0, N: 4},
			{Order: 1, Line: 2, Bin: 1, N: 2}, {Order: 1, Line: 2, Bin: 2, N: 1},
		},
		Moves: []api.Move{{Good: 0, From: 0, To: 2, N: 3}},
		In:    []int{30, 8, 1}, Out: []int{2, 2, 0}, Fixed: []int{-2, 1, -1},
	}
}

func TestK1Totals(t *testing.T) {
	begun, _ := state.Begin(lane())
	cases := []struct {
		name string
		p    api.Plan
		s    api.State
		want []api.Total
	}{
		{"the example", sample.Plan(), sample.State(), []api.Total{{On: 12, Held: 5, Back: 0, Got: 1}, {On: 6, Held: 6, Back: 3, Got: 0}}},
		{"orders of each kind", lane(), busy(), []api.Total{{On: 26, Held: 10, Back: 5, Got: 2}, {On: 7, Held: 3, Back: 5, Got: 2}, {Back: 7}}},
		{"nothing", lane(), begun, make([]api.Total, 3)},
	}
	for _, c := range cases {
		if l, e := book.Totals(c.p, c.s); e != api.OK || !slices.Equal(l, c.want) {
			t.Errorf("%s: Totals is %v %d, must be %v", c.name, l, e, c.want)
		}
	}
}

// As much as can lie there, and can be wanted.
func TestK1TheGreatestTotals(t *testing.T) {
	p := api.Plan{Bins: make([]api.Bin, api.MaxBins), Sizes: make([]int, api.MaxGoods)}
	s := api.State{}
	for good := range p.Sizes {
		p.Sizes[good] = api.MaxSize
		s.In, s.Out, s.Fixed = append(s.In, 1200), append(s.Out, 0), append(s.Fixed, 0)
	}
	for range p.Bins {
		s.On = append(s.On, []int{200, 200, 200})
	}
	for range api.MaxOrders {
		s.Orders = append(s.Orders, api.Order{Kind: api.Closed, Lines: []api.Line{{Good: 2, Want: 200, Got: 200}, {Good: 2, Want: 200, Got: 200}, {Good: 1, Want: 200, Back: 200}}})
	}
	want := []api.Total{{On: 1200}, {On: 1200, Back: 800}, {On: 1200, Got: 1600}}
	if l, e := book.Totals(p, s); e != api.OK || !slices.Equal(l, want) {
		t.Errorf("Totals is %v %d, must be %v", l, e, want)
	}
	if n, e := book.Open(p, s); n != 0 || e != api.OK {
		t.Errorf("Open is %d %d, must be 0", n, e)
	}
}

func TestK1Open(t *testing.T) {
	orders := func(kinds ...int) api.State {
		s, _ := state.Begin(lane())
		for _, kind := range kinds {
			l := api.Line{Want: 3}
			if kind != api.Entered {
				l.Back = 3
			}
			s.Orders = append(s.Orders, api.Order{Kind: kind, Lines: []api.Line{l}})
		}
		return s
	}
	cases := []struct {
		s    api.State
		want int
	}{
		{orders(), 0}, {orders(api.Entered), 1}, {orders(api.Released), 1}, {orders(api.Closed), 0},
		{orders(api.Closed, api.Entered, api.Closed, api.Released), 2},
		{orders(api.Entered, api.Released, api.Released, api.Entered), 4},
		{orders(api.Closed, api.Closed, api.Closed, api.Closed), 0},
		{busy(), 2},
	}
	for _, c := range cases {
		if n, e := book.Open(lane(), c.s); n != c.want || e != api.OK {
			t.Errorf("Open of %v is %d %d, must be %d", c.s.Orders, n, e, c.want)
		}
	}
}

func TestK1StatesErrors(t *testing.T) {
	far, high, less := sample.State(), sample.State(), sample.State()
	far.Holds[0].Order, high.Orders[0].Lines[0].Good, less.On[0][0] = math.MaxInt, math.MaxInt, 8
	wrongs := []sample.Wrong{{Plan: sample.Plan(), State: far, Errno: api.ErrForm}, {Plan: sample.Plan(), State: high, Errno: api.ErrForm}, {Plan: sample.Plan(), State: less, Errno: api.ErrSum}}
	for _, c := range append(sample.Wrongs(), wrongs...) {
		if l, e := book.Totals(c.Plan, c.State); len(l) != 0 || e != c.Errno {
			t.Errorf("Totals is %v %d, must be nothing and %d", l, e, c.Errno)
		}
		if n, e := book.Open(c.Plan, c.State); n != 0 || e != c.Errno {
			t.Errorf("Open is %d %d, must be 0 and %d", n, e, c.Errno)
		}
	}
}

func TestP2TotalsAreNewMemory(t *testing.T) {
	s := busy()
	first, _ := book.Totals(lane(), s)
	second, _ := book.Totals(lane(), s)
	for i := range first {
		first[i] = api.Total{On: -1, Held: -1, Back: -1, Got: -1}
	}
	third, _ := book.Totals(lane(), s)
	if !slices.Equal(second, third) || !reflect.DeepEqual(s, busy()) {
		t.Errorf("Totals is %v, and then %v, of %v", second, third, s)
	}
}

// What came, less what went, and was fixed, lies there, act by act.
func TestK2NothingIsLost(t *testing.T) {
	p := sample.Plan()
	s, _ := state.Begin(p)
	acts := []struct {
		name string
		do   func() (api.State, api.Errno)
		want api.Total
		open int
	}{
		{"twelve come", func() (api.State, api.Errno) { return recv.Receive(p, s, 0, 0, 12) }, api.Total{On: 12}, 0},
		{"an order is entered", func() (api.State, api.Errno) { return recv.Enter(p, s, []api.Line{{Want: 9}}) }, api.Total{On: 12}, 1},
		{"one more is", func() (api.State, api.Errno) { return recv.Enter(p, s, []api.Line{{Want: 2}}) }, api.Total{On: 12}, 2},
		{"they are released", func() (api.State, api.Errno) { return wave.Release(p, s) }, api.Total{On: 12, Held: 11}, 2},
		{"the front is filled", func() (api.State, api.Errno) { return fill.Fill(p, s) }, api.Total{On: 12, Held: 11}, 2},
		{"one is moved", func() (api.State, api.Errno) { return fill.Moved(p, s, 0, 1) }, api.Total{On: 12, Held: 11}, 2},
		{"two are gone", func() (api.State, api.Errno) { return count.Count(p, s, 0, 0, 9) }, api.Total{On: 10, Held: 10, Back: 1}, 2},
		{"seven are picked", func() (api.State, api.Errno) { return pick.Pick(p, s, 0, 0, 0, 7) }, api.Total{On: 3, Held: 1, Back: 3, Got: 7}, 2},
		{"one is found", func() (api.State, api.Errno) { return count.Count(p, s, 2, 0, 1) }, api.Total{On: 4, Held: 1, Back: 3, Got: 7}, 2},
		{"they are released again", func() (api.State, api.Errno) { return wave.Release(p, s) }, api.Total{On: 4, Held: 4, Back: 0, Got: 7}, 2},
		{"the first is cancelled", func() (api.State, api.Errno) { return wave.Cancel(p, s, 0) }, api.Total{On: 4, Held: 2, Back: 2, Got: 7}, 1},
	}
	for _, a := range acts {
		x, e := a.do()
		l, f := book.Totals(p, x)
		n, g := book.Open(p, x)
		if e != api.OK || f != api.OK || g != api.OK || l[0] != a.want || n != a.open {
			t.Fatalf("%s: %v %d; Totals is %v %d, must be %v; Open is %d %d, must be %d", a.name, x, e, l, f, a.want, n, g, a.open)
		}
		if l[0].On != x.In[0]-x.Out[0]+x.Fixed[0] || l[1] != (api.Total{}) {
			t.Errorf("%s: %v lie there, of %v", a.name, l, x)
		}
		s = x
	}
}
