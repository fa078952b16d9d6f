package holds_test

import (
	"math"
	"slices"
	"testing"

	"weighhouse/api"
	"weighhouse/holds"
)

func hold(order, line, bin, n int) api.Hold {
	return api.Hold{Order: order, Line: line, Bin: bin, N: n}
}

// three gives right holds with spare room behind them, in which a write is seen.
func three() []api.Hold {
	return []api.Hold{hold(0, 0, 5, 4), hold(0, 1, 2, 200), hold(2, 0, 0, 1), hold(9, 9, 9, 9)}[:3]
}

func wrongHolds() map[string]api.Hold {
	return map[string]api.Hold{
		"an order below": hold(-1, 0, 0, 1), "an order above": hold(api.MaxOrders, 0, 0, 1),
		"a line below": hold(0, -1, 0, 1), "a line above": hold(0, api.MaxLines, 0, 1),
		"a bin below": hold(0, 0, -1, 1), "a bin above": hold(0, 0, api.MaxBins, 1),
		"nothing kept": hold(0, 0, 0, 0), "less than nothing kept": hold(0, 0, 0, -1),
		"too much kept":       hold(0, 0, 0, api.MaxUnits+1),
		"the greatest number": hold(0, 0, 0, math.MaxInt), "the least number": hold(0, 0, 0, math.MinInt),
		"all the greatest": hold(math.MaxInt, math.MaxInt, math.MaxInt, math.MaxInt),
		"all the least":    hold(math.MinInt, math.MinInt, math.MinInt, math.MinInt),
	}
}

func wrongLists() map[string][]api.Hold {
	lists := map[string][]api.Hold{
		"one twice":                       {hold(0, 0, 0, 1), hold(0, 0, 0, 1)},
		"one twice with another N":        {hold(1, 1, 1, 1), hold(1, 1, 1, 2)},
		"bins fall":                       {hold(0, 0, 1, 1), hold(0, 0, 0, 1)},
		"lines fall, though bins rise":    {hold(0, 1, 0, 1), hold(0, 0, 5, 1)},
		"orders fall, though others rise": {hold(1, 0, 0, 1), hold(0, 2, 5, 1)},
		"the last falls":                  {hold(0, 0, 0, 1), hold(0, 0, 1, 1), hold(0, 0, 2, 1), hold(0, 0, 1, 1)},
		"wrong behind two right ones":     {hold(0, 0, 0, 1), hold(0, 0, 1, 1), hold(0, 0, 2, 0)},
		"very many":                       slices.Repeat([]api.Hold{hold(1, 1, 1, 1)}, 100000),
	}
	for name, h := range wrongHolds() {
		lists[name] = []api.Hold{h}
	}
	return lists
}

// all gives every hold that there may be.
func all() []api.Hold {
	var l []api.Hold
	for order := range api.MaxOrders {
		for line := range api.MaxLines {
			for bin := range api.MaxBins {
				l = append(l, hold(order, line, bin, api.MaxUnits))
			}
		}
	}
	return l
}

func TestC1CheckOfRightOnes(t *testing.T) {
	right := [][]api.Hold{
		nil, {}, three(), all(),
		{hold(0, 0, 0, 1)}, {hold(api.MaxOrders-1, api.MaxLines-1, api.MaxBins-1, api.MaxUnits)},
		{hold(0, 0, 5, 1), hold(0, 1, 0, 1), hold(1, 0, 0, 1)},
	}
	for _, l := range right {
		if e := holds.Check(l); e != api.OK {
			t.Errorf("%v: %d", l, e)
		}
	}
}

func TestC1CheckOfWrongOnes(t *testing.T) {
	for name, l := range wrongLists() {
		if e := holds.Check(l); e != api.ErrForm {
			t.Errorf("%s: %d", name, e)
		}
	}
}

func TestC1OthersTellCheckFirst(t *testing.T) {
	for name, l := range wrongLists() {
		if x, e := holds.Add(l, hold(3, 0, 0, 1)); len(x) != 0 || e != api.ErrForm {
			t.Errorf("%s: Add is %v %d", name, x, e)
		}
		if x, n, e := holds.Drop(l, 3, 2, 5); len(x) != 0 || n != 0 || e != api.ErrForm {
			t.Errorf("%s: Drop is %v %d %d", name, x, n, e)
		}
		if x, n, e := holds.Drop(l, l[0].Order, l[0].Line, l[0].Bin); len(x) != 0 || n != 0 || e != api.ErrForm {
			t.Errorf("%s: Drop of the first is %v %d %d", name, x, n, e)
		}
		if n, e := holds.Kept(l, l[0].Order, l[0].Line); n != 0 || e != api.ErrForm {
			t.Errorf("%s: Kept is %d %d", name, n, e)
		}
	}
}

func TestC2Add(t *testing.T) {
	cases := []struct {
		name string
		l    []api.Hold
		h    api.Hold
		want []api.Hold
		e    api.Errno
	}{
		{"to none", nil, hold(1, 2, 3, 4), []api.Hold{hold(1, 2, 3, 4)}, api.OK},
		{"ahead of all", three(), hold(0, 0, 0, 1), []api.Hold{hold(0, 0, 0, 1), hold(0, 0, 5, 4), hold(0, 1, 2, 200), hold(2, 0, 0, 1)}, api.OK},
		{"between", three(), hold(0, 1, 3, 1), []api.Hold{hold(0, 0, 5, 4), hold(0, 1, 2, 200), hold(0, 1, 3, 1), hold(2, 0, 0, 1)}, api.OK},
		{"behind all", three(), hold(3, 0, 0, 200), []api.Hold{hold(0, 0, 5, 4), hold(0, 1, 2, 200), hold(2, 0, 0, 1), hold(3, 0, 0, 200)}, api.OK},
		{"two are one", three(), hold(0, 0, 5, 3), []api.Hold{hold(0, 0, 5, 7), hold(0, 1, 2, 200), hold(2, 0, 0, 1)}, api.OK},
		{"up to all", three(), hold(2, 0, 0, 199), []api.Hold{hold(0, 0, 5, 4), hold(0, 1, 2, 200), hold(2, 0, 0, 200)}, api.OK},
		{"above all", three(), hold(2, 0, 0, 200), nil, api.ErrRange},
		{"one above all", three(), hold(0, 1, 2, 1), nil, api.ErrRange},
	}
	for _, c := range cases {
		x, e := holds.Add(c.l, c.h)
		if e != c.e || !slices.Equal(x, c.want) {
			t.Errorf("%s: %v %d, must be %v %d", c.name, x, e, c.want, c.e)
		}
	}
}

func TestC2AddOfWrongOnes(t *testing.T) {
	for name, h := range wrongHolds() {
		for _, l := range [][]api.Hold{nil, three(), all()} {
			if x, e := holds.Add(l, h); len(x) != 0 || e != api.ErrForm {
				t.Errorf("%s: Add is %v %d", name, x, e)
			}
		}
	}
}

func TestC2Drop(t *testing.T) {
	cases := []struct {
		order, line, bin int
		want             []api.Hold
		n                int
		e                api.Errno
	}{
		{0, 0, 5, []api.Hold{hold(0, 1, 2, 200), hold(2, 0, 0, 1)}, 4, api.OK},
		{0, 1, 2, []api.Hold{hold(0, 0, 5, 4), hold(2, 0, 0, 1)}, 200, api.OK},
		{2, 0, 0, []api.Hold{hold(0, 0, 5, 4), hold(0, 1, 2, 200)}, 1, api.OK},
		{0, 0, 4, nil, 0, api.ErrNone},
		{0, 2, 2, nil, 0, api.ErrNone},
		{1, 1, 2, nil, 0, api.ErrNone},
		{3, 0, 0, nil, 0, api.ErrNone},
		{-1, -1, -1, nil, 0, api.ErrNone},
		{9, 9, 9, nil, 0, api.ErrNone},
		{math.MinInt, math.MaxInt, math.MinInt, nil, 0, api.ErrNone},
	}
	for _, c := range cases {
		x, n, e := holds.Drop(three(), c.order, c.line, c.bin)
		if e != c.e || n != c.n || !slices.Equal(x, c.want) {
			t.Errorf("%d %d %d: %v %d %d, must be %v %d %d", c.order, c.line, c.bin, x, n, e, c.want, c.n, c.e)
		}
	}
	if x, n, e := holds.Drop(nil, 0, 0, 0); len(x) != 0 || n != 0 || e != api.ErrNone {
		t.Errorf("of none: %v %d %d", x, n, e)
	}
	if x, n, e := holds.Drop([]api.Hold{hold(1, 1, 1, 8)}, 1, 1, 1); len(x) != 0 || n != 8 || e != api.OK {
		t.Errorf("of the only one: %v %d %d", x, n, e)
	}
}

func TestC2Kept(t *testing.T) {
	l := []api.Hold{hold(0, 1, 2, 7), hold(1, 0, 5, 30), hold(1, 1, 0, 200), hold(1, 1, 4, 200), hold(1, 1, 5, 3), hold(2, 1, 0, 9)}
	cases := []struct{ order, line, want int }{
		{0, 1, 7}, {1, 0, 30}, {1, 1, 403}, {2, 1, 9},
		{0, 0, 0}, {1, 2, 0}, {3, 1, 0}, {-1, 1, 0}, {1, -1, 0}, {99, 99, 0}, {math.MinInt, math.MaxInt, 0},
	}
	for _, c := range cases {
		if n, e := holds.Kept(l, c.order, c.line); n != c.want || e != api.OK {
			t.Errorf("%d %d: %d %d, must be %d", c.order, c.line, n, e, c.want)
		}
	}
	if n, e := holds.Kept(all(), 3, 2); n != api.MaxBins*api.MaxUnits || e != api.OK {
		t.Errorf("of all: %d %d", n, e)
	}
	if n, e := holds.Kept(nil, 0, 0); n != 0 || e != api.OK {
		t.Errorf("of none: %d %d", n, e)
	}
}

// Adding and dropping in any order keeps the same as a map from places to numbers does.
func TestC2KeepsWhatAMapKeeps(t *testing.T) {
	type place struct{ order, line, bin int }
	model := map[place]int{}
	var l []api.Hold
	seed := uint32(7)
	draw := func(n int) int {
		seed = seed*1664525 + 1013904223
		return int(seed>>8) % n
	}
	for i := range 3000 {
		at := place{draw(api.MaxOrders), draw(api.MaxLines), draw(api.MaxBins)}
		had := model[at]
		if draw(3) == 0 {
			x, n, e := holds.Drop(l, at.order, at.line, at.bin)
			if n != had || (e == api.OK) != (had > 0) {
				t.Fatalf("%d: Drop of %v is %d %d, there were %d", i, at, n, e, had)
			}
			if e == api.OK {
				l = x
				delete(model, at)
			}
		} else {
			more := 1 + draw(120)
			x, e := holds.Add(l, hold(at.order, at.line, at.bin, more))
			if (e == api.OK) != (had+more <= api.MaxUnits) {
				t.Fatalf("%d: Add of %d to %d tells %d", i, more, had, e)
			}
			if e == api.OK {
				l = x
				model[at] = had + more
			}
		}
		if e := holds.Check(l); e != api.OK || len(l) != len(model) {
			t.Fatalf("%d: %d, %d holds, must be %d", i, e, len(l), len(model))
		}
		for _, h := range l {
			if model[place{h.Order, h.Line, h.Bin}] != h.N {
				t.Fatalf("%d: %v, must be %d", i, h, model[place{h.Order, h.Line, h.Bin}])
			}
		}
	}
}

func TestP2AnswersAreNewMemory(t *testing.T) {
	answers := map[string]func(l []api.Hold) []api.Hold{
		"Add of another":    func(l []api.Hold) []api.Hold { x, _ := holds.Add(l, hold(3, 0, 0, 1)); return x },
		"Add of the same":   func(l []api.Hold) []api.Hold { x, _ := holds.Add(l, hold(0, 0, 5, 1)); return x },
		"Drop of the first": func(l []api.Hold) []api.Hold { x, _, _ := holds.Drop(l, 0, 0, 5); return x },
		"Drop of the last":  func(l []api.Hold) []api.Hold { x, _, _ := holds.Drop(l, 2, 0, 0); return x },
	}
	for name, answer := range answers {
		l := three()
		x := answer(l)
		before := slices.Clone(x)
		if !slices.Equal(l[:4], three()[:4]) {
			t.Errorf("%s: what was handed in is %v now", name, l[:4])
		}
		clear(x[:cap(x)])
		if !slices.Equal(l[:4], three()[:4]) {
			t.Errorf("%s: the answer shares memory with what was handed in", name)
		}
		again := answer(l)
		clear(l[:4])
		if !slices.Equal(again, before) {
			t.Errorf("%s: once more it is %v, must be %v", name, again, before)
		}
	}
}
