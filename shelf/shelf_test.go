package shelf_test

import (
	"math"
	"reflect"
	"slices"
	"testing"

	"weighhouse/api"
	"weighhouse/shelf"
)

func twoBins() api.Plan {
	return api.Plan{
		Bins:  []api.Bin{{Room: 100}, {Front: true, Room: 30, Low: 4, High: 8}},
		Sizes: []int{2, 3},
	}
}

// some gives rows that lie behind one another, with spare room, so that a write beside a row is seen.
func some() [][]int {
	all := []int{1, 2, 5, 200, -9}
	return [][]int{all[0:2], all[2:4], {-9}}[:2]
}

type checkCase struct {
	name string
	p    api.Plan
	on   [][]int
	want api.Errno
}

func checkCases() []checkCase {
	roomBelow := twoBins()
	roomBelow.Bins[0].Room = -1
	return []checkCase{
		{"ordinary", twoBins(), some(), api.OK},
		{"least", twoBins(), [][]int{{0, 0}, {0, 0}}, api.OK},
		{"greatest", twoBins(), [][]int{{200, 200}, {200, 200}}, api.OK},
		{"more than there is room", twoBins(), [][]int{{0, 0}, {200, 200}}, api.OK},
		{"no rows", twoBins(), nil, api.ErrForm},
		{"a row too few", twoBins(), [][]int{{1, 2}}, api.ErrForm},
		{"a row too many", twoBins(), [][]int{{1, 2}, {1, 2}, {1, 2}}, api.ErrForm},
		{"a row that is nil", twoBins(), [][]int{{1, 2}, nil}, api.ErrForm},
		{"a number too few", twoBins(), [][]int{{1, 2}, {1}}, api.ErrForm},
		{"a number too many", twoBins(), [][]int{{1, 2, 3}, {1, 2}}, api.ErrForm},
		{"a number below", twoBins(), [][]int{{1, 2}, {1, -1}}, api.ErrForm},
		{"a number above", twoBins(), [][]int{{1, 2}, {201, 1}}, api.ErrForm},
		{"the least number", twoBins(), [][]int{{math.MinInt, 2}, {1, 1}}, api.ErrForm},
		{"the greatest number", twoBins(), [][]int{{math.MaxInt, 2}, {1, 1}}, api.ErrForm},
		{"no plan", api.Plan{}, nil, api.ErrMany},
		{"no plan, but rows", api.Plan{}, some(), api.ErrMany},
		{"a plan out of range, and no rows", roomBelow, nil, api.ErrRange},
	}
}

func TestB1Check(t *testing.T) {
	for _, c := range checkCases() {
		if got := shelf.Check(c.p, c.on); got != c.want {
			t.Errorf("%s: Check is %d, must be %d", c.name, got, c.want)
		}
	}
}

func TestB1OthersTellCheckFirst(t *testing.T) {
	for _, c := range checkCases() {
		if c.want == api.OK {
			continue
		}
		for _, k := range []int{0, -1, 99} {
			if n, e := shelf.Used(c.p, c.on, k); n != 0 || e != c.want {
				t.Errorf("%s: Used is %d %d, must be 0 %d", c.name, n, e, c.want)
			}
			if n, e := shelf.Sum(c.p, c.on, k); n != 0 || e != c.want {
				t.Errorf("%s: Sum is %d %d, must be 0 %d", c.name, n, e, c.want)
			}
			if x, e := shelf.Put(c.p, c.on, k, k, k); len(x) != 0 || e != c.want {
				t.Errorf("%s: Put is %v %d, must be nothing and %d", c.name, x, e, c.want)
			}
		}
	}
}

func TestB1Used(t *testing.T) {
	cases := []struct {
		bin, want int
		e         api.Errno
	}{
		{0, 8, api.OK}, {1, 610, api.OK},
		{-1, 0, api.ErrRange}, {2, 0, api.ErrRange}, {math.MinInt, 0, api.ErrRange}, {math.MaxInt, 0, api.ErrRange},
	}
	for _, c := range cases {
		if n, e := shelf.Used(twoBins(), some(), c.bin); n != c.want || e != c.e {
			t.Errorf("Used of %d is %d %d, must be %d %d", c.bin, n, e, c.want, c.e)
		}
	}
}

func TestB1Sum(t *testing.T) {
	cases := []struct {
		good, want int
		e          api.Errno
	}{
		{0, 6, api.OK}, {1, 202, api.OK},
		{-1, 0, api.ErrRange}, {2, 0, api.ErrRange}, {math.MinInt, 0, api.ErrRange}, {math.MaxInt, 0, api.ErrRange},
	}
	for _, c := range cases {
		if n, e := shelf.Sum(twoBins(), some(), c.good); n != c.want || e != c.e {
			t.Errorf("Sum of %d is %d %d, must be %d %d", c.good, n, e, c.want, c.e)
		}
	}
}

// A plan with more bins than goods, and one with more goods than bins: a bin is not asked as a good, nor a good as a bin.
func TestB1BinsAreNotGoods(t *testing.T) {
	tall := api.Plan{Bins: make([]api.Bin, 3), Sizes: []int{4}}
	if n, e := shelf.Used(tall, [][]int{{1}, {2}, {3}}, 2); n != 12 || e != api.OK {
		t.Errorf("Used of the third bin is %d %d", n, e)
	}
	if _, e := shelf.Sum(tall, [][]int{{1}, {2}, {3}}, 1); e != api.ErrRange {
		t.Errorf("Sum of a second good tells %d", e)
	}
	if _, e := shelf.Put(tall, [][]int{{1}, {2}, {3}}, 0, 2, 0); e != api.ErrRange {
		t.Errorf("Put of a third good tells %d", e)
	}
	wide := api.Plan{Bins: make([]api.Bin, 1), Sizes: []int{1, 2, 3}}
	if n, e := shelf.Sum(wide, [][]int{{7, 8, 9}}, 2); n != 9 || e != api.OK {
		t.Errorf("Sum of the third good is %d %d", n, e)
	}
	if _, e := shelf.Used(wide, [][]int{{7, 8, 9}}, 1); e != api.ErrRange {
		t.Errorf("Used of a second bin tells %d", e)
	}
	if _, e := shelf.Put(wide, [][]int{{7, 8, 9}}, 2, 0, 0); e != api.ErrRange {
		t.Errorf("Put into a third bin tells %d", e)
	}
}

func TestB1Put(t *testing.T) {
	cases := []struct {
		bin, good, n int
		want         [][]int
		e            api.Errno
	}{
		{0, 0, 4, [][]int{{5, 2}, {5, 200}}, api.OK},
		{0, 1, 0, [][]int{{1, 2}, {5, 200}}, api.OK},
		{1, 0, -5, [][]int{{1, 2}, {0, 200}}, api.OK},
		{1, 0, -6, nil, api.ErrRange},
		{1, 0, 195, [][]int{{1, 2}, {200, 200}}, api.OK},
		{1, 0, 196, nil, api.ErrRange},
		{1, 1, 1, nil, api.ErrRange},
		{1, 1, -200, [][]int{{1, 2}, {5, 0}}, api.OK},
		{1, 1, -201, nil, api.ErrRange},
		{1, 1, math.MaxInt, nil, api.ErrRange},
		{1, 1, math.MinInt, nil, api.ErrRange},
		{-1, 0, 1, nil, api.ErrRange},
		{2, 0, 1, nil, api.ErrRange},
		{0, -1, 1, nil, api.ErrRange},
		{0, 2, 1, nil, api.ErrRange},
		{math.MaxInt, math.MinInt, 0, nil, api.ErrRange},
	}
	for _, c := range cases {
		x, e := shelf.Put(twoBins(), some(), c.bin, c.good, c.n)
		if e != c.e || len(x) != len(c.want) || len(x) > 0 && !reflect.DeepEqual(x, c.want) {
			t.Errorf("Put of %d %d %d is %v %d, must be %v %d", c.bin, c.good, c.n, x, e, c.want, c.e)
		}
	}
}

// scribble writes over a list of rows and over its spare room.
func scribble(rows [][]int) {
	for _, row := range rows {
		row = row[:cap(row)]
		for i := range row {
			row[i] = 99
		}
	}
	clear(rows[:cap(rows)])
}

func TestP2PutIsNewMemory(t *testing.T) {
	on := some()
	first, _ := shelf.Put(twoBins(), on, 0, 1, 3)
	if !reflect.DeepEqual(on, some()) || on[0][:5][4] != -9 || on[:3][2][0] != -9 {
		t.Fatalf("what was handed in is %v now", on)
	}
	whole := func(bin int) []int { return first[bin][:cap(first[bin])] } // its spare room, too
	for bin := range first {
		before := slices.Clone(whole(1 - bin))
		kept := slices.Clone(whole(bin))
		for i := range whole(bin) {
			whole(bin)[i] = 77
		}
		if !slices.Equal(whole(1-bin), before) {
			t.Fatalf("two rows share memory")
		}
		copy(whole(bin), kept)
	}
	scribble(first)
	if !reflect.DeepEqual(on, some()) {
		t.Fatalf("the answer shares memory with what was handed in: %v", on)
	}
	second, _ := shelf.Put(twoBins(), on, 0, 1, 3)
	scribble(on)
	if want := [][]int{{1, 5}, {5, 200}}; !reflect.DeepEqual(second, want) {
		t.Fatalf("a later change of what was handed in is seen: %v", second)
	}
}
