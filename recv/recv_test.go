package recv_test

import (
	"math"
	"reflect"
	"slices"
	"testing"

	"weighhouse/api"
	"weighhouse/recv"
	"weighhouse/sample"
	"weighhouse/state"
)

// wide has bins with room for more than may lie there.
func wide() api.Plan {
	return api.Plan{
		Bins:  []api.Bin{{Room: 1000}, {Front: true, Room: 1000, Low: 4, High: 8}, {Room: 1000}},
		Sizes: []int{2, 3},
	}
}

func TestF1Receive(t *testing.T) {
	cases := []struct {
		name         string
		p            api.Plan
		bin, good, n int
		want         api.Errno
	}{
		{"one", sample.Plan(), 0, 0, 1, api.OK},
		{"as many as have room", sample.Plan(), 0, 0, 41, api.OK},
		{"one more", sample.Plan(), 0, 0, 42, api.ErrFull},
		{"as many as have room beside those that move there", sample.Plan(), 1, 0, 7, api.OK},
		{"one more beside them", sample.Plan(), 1, 0, 8, api.ErrFull},
		{"of another size", sample.Plan(), 1, 1, 4, api.OK},
		{"one more of it", sample.Plan(), 1, 1, 5, api.ErrFull},
		{"the last bin", sample.Plan(), 2, 1, 14, api.OK},
		{"one more in the last bin", sample.Plan(), 2, 1, 15, api.ErrFull},
		{"more than room and units", sample.Plan(), 0, 0, 200, api.ErrFull},
		{"as many as may lie there", wide(), 0, 0, 191, api.OK},
		{"more than may lie there", wide(), 0, 0, 192, api.ErrMany},
		{"as many as may lie there, with those that move there", wide(), 1, 0, 192, api.OK},
		{"more than may lie there with them", wide(), 1, 0, 193, api.ErrMany},
		{"a good of which none moves there", wide(), 1, 1, 200, api.OK},
		{"a bin from which some move", wide(), 2, 0, 200, api.OK},
		{"none", sample.Plan(), 0, 0, 0, api.ErrRange},
		{"less than none", sample.Plan(), 0, 0, -1, api.ErrRange},
		{"too many", wide(), 2, 0, 201, api.ErrRange},
		{"far too few", sample.Plan(), 0, 0, math.MinInt, api.ErrRange},
		{"far too many", sample.Plan(), 0, 0, math.MaxInt, api.ErrRange},
		{"many that wrap round", sample.Plan(), 0, 0, math.MaxInt/2 + 2, api.ErrRange},
		{"a bin below", sample.Plan(), -1, 0, 1, api.ErrRange},
		{"a bin above", sample.Plan(), 3, 0, 1, api.ErrRange},
		{"a good below", sample.Plan(), 0, -1, 1, api.ErrRange},
		{"a good above", sample.Plan(), 0, 2, 1, api.ErrRange},
		{"all far off", sample.Plan(), math.MaxInt, math.MinInt, math.MaxInt, api.ErrRange},
	}
	for _, c := range cases {
		want := api.State{}
		if c.want == api.OK {
			want = sample.State()
			want.On[c.bin][c.good] += c.n
			want.In[c.good] += c.n
		}
		s, e := recv.Receive(c.p, sample.State(), c.bin, c.good, c.n)
		if e != c.want || !reflect.DeepEqual(s, want) {
			t.Errorf("%s: Receive is\n%v %d, must be\n%v %d", c.name, s, e, want, c.want)
		}
		if e == api.OK && state.Check(c.p, s) != api.OK {
			t.Errorf("%s: Check of what comes is %d", c.name, state.Check(c.p, s))
		}
	}
}

func TestF1ReceiveWithTwoMovesThere(t *testing.T) {
	s := sample.State()
	s.On[2][0], s.In[0] = 50, 63
	s.Moves = append(s.Moves, api.Move{Good: 0, From: 2, To: 1, N: 50}, api.Move{Good: 0, From: 0, To: 2, N: 1})
	if _, e := recv.Receive(wide(), s, 1, 0, 142); e != api.OK {
		t.Errorf("Receive of 142 tells %d", e)
	}
	if _, e := recv.Receive(wide(), s, 1, 0, 143); e != api.ErrMany {
		t.Errorf("Receive of 143 tells %d", e)
	}
}

func TestF1ReceiveOfTheGreatestSum(t *testing.T) {
	s := sample.State()
	s.In[0], s.Out[0] = api.MaxSum-3, api.MaxSum-15
	x, e := recv.Receive(wide(), s, 0, 0, 3)
	if e != api.OK || x.In[0] != api.MaxSum || x.On[0][0] != 12 {
		t.Errorf("Receive of as many as may come is %v %d", x, e)
	}
	if x, e := recv.Receive(wide(), s, 0, 0, 4); e != api.ErrMany || !reflect.DeepEqual(x, api.State{}) {
		t.Errorf("Receive of one more is %v %d", x, e)
	}
	if _, e := recv.Receive(wide(), s, 0, 1, 4); e != api.OK {
		t.Errorf("Receive of the other good tells %d", e)
	}
	if _, e := recv.Receive(sample.Plan(), s, 0, 0, 42); e != api.ErrFull {
		t.Errorf("Receive of more than room and sum tells %d", e)
	}
}

// A bin may have more in it than its room, as rooms are not asked of states: then nothing more comes.
func TestF1ReceiveWhereLessThanNothingIsFree(t *testing.T) {
	s := sample.State()
	s.On[1][1], s.In[1] = 20, 26
	if x, e := recv.Receive(sample.Plan(), s, 1, 0, 1); e != api.ErrFull || !reflect.DeepEqual(x, api.State{}) {
		t.Errorf("Receive is %v %d", x, e)
	}
}

func TestF1Enter(t *testing.T) {
	cases := []struct {
		name string
		l    []api.Line
		want api.Errno
	}{
		{"one line", []api.Line{{Good: 1, Want: 2}}, api.OK},
		{"the least", []api.Line{{Good: 0, Want: 1}}, api.OK},
		{"the greatest", []api.Line{{Good: 1, Want: 200}, {Good: 1, Want: 200}, {Good: 1, Want: 200}}, api.OK},
		{"more than lies there, a good twice", []api.Line{{Want: 200}, {Want: 3}}, api.OK},
		{"nil", nil, api.ErrMany},
		{"no lines", []api.Line{}, api.ErrMany},
		{"a line too many", []api.Line{{Want: 1}, {Want: 1}, {Want: 1}, {Want: 1}}, api.ErrMany},
		{"bad lines too many", make([]api.Line, 4), api.ErrMany},
		{"very many", make([]api.Line, 100000), api.ErrMany},
		{"nothing wanted", []api.Line{{Good: 0, Want: 0}}, api.ErrRange},
		{"less than nothing wanted", []api.Line{{Good: 0, Want: -1}}, api.ErrRange},
		{"too much wanted", []api.Line{{Good: 0, Want: 201}}, api.ErrRange},
		{"far too much wanted", []api.Line{{Good: 0, Want: math.MaxInt}}, api.ErrRange},
		{"a good below", []api.Line{{Good: -1, Want: 1}}, api.ErrRange},
		{"a good above", []api.Line{{Good: 2, Want: 1}}, api.ErrRange},
		{"goods far off", []api.Line{{Good: math.MinInt, Want: 1}}, api.ErrRange},
		{"a bad last line", []api.Line{{Want: 1}, {Want: 1}, {Good: 2, Want: 1}}, api.ErrRange},
		{"got", []api.Line{{Want: 1, Got: 1}}, api.ErrForm},
		{"got below", []api.Line{{Want: 1, Got: -1}}, api.ErrForm},
		{"back", []api.Line{{Want: 1, Back: 1}}, api.ErrForm},
		{"back below", []api.Line{{Want: 1}, {Want: 1, Back: math.MinInt}}, api.ErrForm},
		{"got and back that are 0 together", []api.Line{{Want: 1, Got: -1, Back: 1}}, api.ErrForm},
		{"got, and a later line's Want", []api.Line{{Want: 1, Got: 1}, {Want: 0}}, api.ErrRange},
		{"back, and its own Good", []api.Line{{Good: 2, Want: 1, Back: 1}}, api.ErrRange},
	}
	for _, c := range cases {
		want := api.State{}
		if c.want == api.OK {
			want = sample.State()
			want.Orders = append(want.Orders, api.Order{Kind: api.Entered, Lines: slices.Clone(c.l)})
		}
		s, e := recv.Enter(sample.Plan(), sample.State(), c.l)
		if e != c.want || !reflect.DeepEqual(s, want) {
			t.Errorf("%s: Enter is\n%v %d, must be\n%v %d", c.name, s, e, want, c.want)
		}
		if e == api.OK && state.Check(sample.Plan(), s) != api.OK {
			t.Errorf("%s: Check of what comes is %d", c.name, state.Check(sample.Plan(), s))
		}
	}
}

func TestF1EnterAsManyAsMayBe(t *testing.T) {
	s, e := state.Begin(sample.Plan())
	for i := range api.MaxOrders {
		s, e = recv.Enter(sample.Plan(), s, []api.Line{{Want: i + 1}})
		if e != api.OK || len(s.Orders) != i+1 || s.Orders[i].Lines[0].Want != i+1 || s.Orders[0].Lines[0].Want != 1 {
			t.Fatalf("order %d: Enter is %v %d", i, s, e)
		}
	}
	for _, l := range [][]api.Line{{{Want: 1}}, {{Want: 0}}, nil} {
		if x, e := recv.Enter(sample.Plan(), s, l); e != api.ErrMany || !reflect.DeepEqual(x, api.State{}) {
			t.Errorf("Enter of one more is %v %d", x, e)
		}
	}
}

func TestF1StatesErrorsFirst(t *testing.T) {
	for _, c := range sample.Wrongs() {
		for _, k := range []int{0, 1, -9, 200, math.MaxInt} {
			if s, e := recv.Receive(c.Plan, c.State, k, k, k); e != c.Errno || !reflect.DeepEqual(s, api.State{}) {
				t.Errorf("Receive is %v %d, must be nothing and %d", s, e, c.Errno)
			}
			if s, e := recv.Enter(c.Plan, c.State, []api.Line{{Good: k, Want: k, Got: k}}); e != c.Errno || !reflect.DeepEqual(s, api.State{}) {
				t.Errorf("Enter is %v %d, must be nothing and %d", s, e, c.Errno)
			}
		}
		if s, e := recv.Enter(c.Plan, c.State, nil); e != c.Errno || !reflect.DeepEqual(s, api.State{}) {
			t.Errorf("Enter of nothing is %v %d, must be nothing and %d", s, e, c.Errno)
		}
	}
}
