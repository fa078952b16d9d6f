package plan_test

import (
	"math"
	"slices"
	"testing"

	"weighhouse/api"
	"weighhouse/plan"
)

// with gives a right plan of three bins and two goods, changed.
func with(change func(*api.Plan)) api.Plan {
	p := api.Plan{
		Bins:  []api.Bin{{Room: 100}, {Front: true, Room: 30, Low: 4, High: 8}, {Room: 60}},
		Sizes: []int{2, 3},
	}
	change(&p)
	return p
}

type planCase struct {
	name string
	p    api.Plan
	want api.Errno
}

func bin(name string, want api.Errno, b api.Bin) planCase {
	return planCase{name, with(func(p *api.Plan) { p.Bins[2] = b }), want}
}

func size(name string, want api.Errno, n int) planCase {
	return planCase{name, with(func(p *api.Plan) { p.Sizes[1] = n }), want}
}

func counts(name string, want api.Errno, bins, sizes int) planCase {
	return planCase{name, api.Plan{
		Bins:  make([]api.Bin, bins),
		Sizes: slices.Repeat([]int{1}, sizes),
	}, want}
}

func planCases() []planCase {
	return []planCase{
		{"ordinary", with(func(*api.Plan) {}), api.OK},
		{"the zero plan", api.Plan{}, api.ErrMany},
		{"lists that are empty, not nil", api.Plan{Bins: []api.Bin{}, Sizes: []int{}}, api.ErrMany},
		counts("one bin, one good", api.OK, 1, 1),
		counts("all bins, all goods", api.OK, api.MaxBins, api.MaxGoods),
		counts("no bin", api.ErrMany, 0, 1),
		counts("no good", api.ErrMany, 1, 0),
		counts("a bin too many", api.ErrMany, api.MaxBins+1, 1),
		counts("a good too many", api.ErrMany, 1, api.MaxGoods+1),
		counts("very many", api.ErrMany, 100000, 100000),
		bin("no room", api.OK, api.Bin{Room: 0}),
		bin("all room", api.OK, api.Bin{Room: api.MaxRoom}),
		bin("room below", api.ErrRange, api.Bin{Room: -1}),
		bin("room above", api.ErrRange, api.Bin{Room: api.MaxRoom + 1}),
		bin("low is high", api.OK, api.Bin{Low: 7, High: 7}),
		bin("high is all", api.OK, api.Bin{Low: api.MaxUnits, High: api.MaxUnits}),
		bin("low above high", api.ErrRange, api.Bin{Low: 8, High: 7}),
		bin("low below", api.ErrRange, api.Bin{Low: -1, High: 7}),
		bin("low and high below", api.ErrRange, api.Bin{Low: -1, High: -1}),
		bin("high below", api.ErrRange, api.Bin{High: -1}),
		bin("high above", api.ErrRange, api.Bin{High: api.MaxUnits + 1}),
		bin("the least numbers", api.ErrRange, api.Bin{Room: math.MinInt, Low: math.MinInt, High: math.MinInt}),
		bin("the greatest numbers", api.ErrRange, api.Bin{Room: math.MaxInt, Low: math.MaxInt, High: math.MaxInt}),
		size("least size", api.OK, 1),
		size("greatest size", api.OK, api.MaxSize),
		size("no size", api.ErrRange, 0),
		size("size below", api.ErrRange, -1),
		size("size above", api.ErrRange, api.MaxSize+1),
		{"too many ahead of out of range", with(func(p *api.Plan) {
			p.Bins[0].Room = -1
			p.Sizes = []int{1, 1, 1, 1}
		}), api.ErrMany},
	}
}

func TestA1Check(t *testing.T) {
	for _, c := range planCases() {
		if got := plan.Check(c.p); got != c.want {
			t.Errorf("%s: Check is %d, must be %d", c.name, got, c.want)
		}
	}
}

func TestA1WayTellsCheck(t *testing.T) {
	for _, c := range planCases() {
		way, got := plan.Way(c.p)
		if got != c.want {
			t.Errorf("%s: Way tells %d, must be %d", c.name, got, c.want)
		}
		if got != api.OK && len(way) != 0 {
			t.Errorf("%s: Way has an error and %v", c.name, way)
		}
	}
}

func TestA1Way(t *testing.T) {
	cases := []struct {
		fronts string // a letter for each bin: f is in front
		want   []int
	}{
		{"bfb", []int{1, 0, 2}},
		{"b", []int{0}},
		{"f", []int{0}},
		{"bbb", []int{0, 1, 2}},
		{"fff", []int{0, 1, 2}},
		{"bfbfbf", []int{1, 3, 5, 0, 2, 4}},
		{"bbbfff", []int{3, 4, 5, 0, 1, 2}},
	}
	for _, c := range cases {
		p := api.Plan{Sizes: []int{1}}
		for _, f := range c.fronts {
			p.Bins = append(p.Bins, api.Bin{Front: f == 'f'})
		}
		way, e := plan.Way(p)
		if e != api.OK || !slices.Equal(way, c.want) {
			t.Errorf("%s: %v %d, must be %v", c.fronts, way, e, c.want)
		}
	}
}

func TestP2P3WayIsNewEachTime(t *testing.T) {
	bins := []api.Bin{{}, {Front: true}, {Room: -7}}
	sizes := []int{1, -7}
	p := api.Plan{Bins: bins[:2], Sizes: sizes[:1]}
	first, _ := plan.Way(p)
	first = first[:cap(first)]
	for i := range first {
		first[i] = 99
	}
	again, e := plan.Way(p)
	if e != api.OK || !slices.Equal(again, []int{1, 0}) {
		t.Errorf("once more: %v %d", again, e)
	}
	if !slices.Equal(bins, []api.Bin{{}, {Front: true}, {Room: -7}}) || !slices.Equal(sizes, []int{1, -7}) {
		t.Errorf("what was handed in is %v %v now", bins, sizes)
	}
}
