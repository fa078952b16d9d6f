package promises

import (
	"math"
	"reflect"
	"testing"

	"weighhouse/alloc"
	"weighhouse/api"
	"weighhouse/book"
	"weighhouse/copies"
	"weighhouse/count"
	"weighhouse/fill"
	"weighhouse/log"
	"weighhouse/pick"
	"weighhouse/plan"
	"weighhouse/recv"
	"weighhouse/sample"
	"weighhouse/shelf"
	"weighhouse/state"
	"weighhouse/wave"
)

// act is one that answers a state.
type act struct {
	name string
	do   func(p api.Plan, s api.State) (api.State, api.Errno)
}

// acts are some that can be done to the sample.
func acts() []act {
	take := func(line, n, but int) func(api.Plan, api.State) (api.State, api.Errno) {
		return func(p api.Plan, s api.State) (api.State, api.Errno) {
			s, _, e := alloc.Take(p, s, 0, line, n, but)
			return s, e
		}
	}
	do := func(x api.Act) func(api.Plan, api.State) (api.State, api.Errno) {
		return func(p api.Plan, s api.State) (api.State, api.Errno) { return log.Do(p, s, x) }
	}
	return []act{
		{"Take of nothing", take(0, 0, -1)},
		{"Take of what is not to be had", take(1, 3, 1)},
		{"Receive", func(p api.Plan, s api.State) (api.State, api.Errno) { return recv.Receive(p, s, 0, 0, 5) }},
		{"Receive to the front", func(p api.Plan, s api.State) (api.State, api.Errno) { return recv.Receive(p, s, 1, 1, 1) }},
		{"Enter", func(p api.Plan, s api.State) (api.State, api.Errno) {
			return recv.Enter(p, s, []api.Line{{Want: 1}, {Good: 1, Want: 2}})
		}},
		{"Release", wave.Release},
		{"Cancel of what is released", func(p api.Plan, s api.State) (api.State, api.Errno) { return wave.Cancel(p, s, 0) }},
		{"Cancel of what is entered", func(p api.Plan, s api.State) (api.State, api.Errno) { return wave.Cancel(p, s, 1) }},
		{"Pick of all", func(p api.Plan, s api.State) (api.State, api.Errno) { return pick.Pick(p, s, 0, 1, 2, 6) }},
		{"Pick of some", func(p api.Plan, s api.State) (api.State, api.Errno) { return pick.Pick(p, s, 0, 0, 1, 1) }},
		{"Fill", fill.Fill},
		{"Moved", func(p api.Plan, s api.State) (api.State, api.Errno) { return fill.Moved(p, s, 0, 4) }},
		{"Count of more", func(p api.Plan, s api.State) (api.State, api.Errno) { return count.Count(p, s, 0, 1, 9) }},
		{"Count that cuts a move", func(p api.Plan, s api.State) (api.State, api.Errno) { return count.Count(p, s, 0, 0, 4) }},
		{"Count that cuts all there", func(p api.Plan, s api.State) (api.State, api.Errno) { return count.Count(p, s, 0, 0, 0) }},
		{"Count that holds elsewhere", func(p api.Plan, s api.State) (api.State, api.Errno) { return count.Count(p, s, 1, 0, 0) }},
		{"Do of Receive", do(api.Act{Kind: api.ActReceive, A: 2, B: 1, N: 9})},
		{"Do of Enter", do(api.Act{Kind: api.ActEnter, Lines: []api.Line{{Want: 1}}})},
		{"Do of Release", do(api.Act{Kind: api.ActRelease})},
		{"Do of Cancel", do(api.Act{Kind: api.ActCancel, A: 1})},
		{"Do of Pick", do(api.Act{Kind: api.ActPick, C: 1, N: 2})},
		{"Do of Fill", do(api.Act{Kind: api.ActFill})},
		{"Do of Moved", do(api.Act{Kind: api.ActMoved, N: 1})},
		{"Do of Count", do(api.Act{Kind: api.ActCount, N: 2})},
	}
}

func TestActsAreRight(t *testing.T) {
	for _, a := range acts() {
		s, e := a.do(sample.Plan(), sample.State())
		if e != api.OK || state.Check(sample.Plan(), s) != api.OK {
			t.Errorf("%s: %v %d, and Check tells %d", a.name, s, e, state.Check(sample.Plan(), s))
		}
	}
}

func TestP1ActsTellStatesErrors(t *testing.T) {
	for _, c := range sample.Wrongs() {
		for _, a := range acts() {
			if s, e := a.do(c.Plan, c.State); e != c.Errno || !reflect.DeepEqual(s, api.State{}) {
				t.Errorf("%s: %v %d, must be nothing and %d", a.name, s, e, c.Errno)
			}
		}
	}
}

// No number of a state may be as small, or as great, as numbers can be.
func TestP1NumbersFarOff(t *testing.T) {
	for i := range numbers(sample.State(), false) {
		for _, n := range []int{math.MinInt, math.MinInt32, math.MaxInt32, math.MaxInt} {
			s := sample.State()
			*numbers(s, false)[i] = n
			if e := state.Check(sample.Plan(), s); e != api.ErrForm {
				t.Errorf("number %d is %d: Check is %d", i, n, e)
			}
			for _, a := range acts() {
				if x, e := a.do(sample.Plan(), s); e != api.ErrForm || !reflect.DeepEqual(x, api.State{}) {
					t.Errorf("number %d is %d: %s: %v %d", i, n, a.name, x, e)
				}
			}
		}
	}
}

// Of numbers that are a little off a state may be right or not: what acts answer is right, or what Check tells.
func TestP1NumbersALittleOff(t *testing.T) {
	for i := range numbers(sample.State(), false) {
		for _, n := range []int{-1, 0, 1, 2, 3, 4, 199, 200, 201} {
			s := sample.State()
			*numbers(s, false)[i] = n
			told := state.Check(sample.Plan(), s)
			for _, a := range acts() {
				x, e := a.do(sample.Plan(), s)
				if told != api.OK && e != told || e == api.OK && state.Check(sample.Plan(), x) != api.OK {
					t.Errorf("number %d is %d: Check is %d; %s: %v %d", i, n, told, a.name, x, e)
				}
			}
		}
	}
}

func TestP2ActsOnlyReadAndAnswerNewMemory(t *testing.T) {
	for _, a := range acts() {
		s, p := sample.State(), sample.Plan()
		x, _ := a.do(p, s)
		if !untouched(s) || !reflect.DeepEqual(p, sample.Plan()) {
			t.Errorf("%s: what was handed in is %v %v now", a.name, p, s)
		}
		if !apart(s, x) {
			t.Errorf("%s: the answer shares memory", a.name)
		}
	}
}

// What is taken goes into lists that were handed in with spare room.
func TestP2TakeIsNewMemory(t *testing.T) {
	s := sample.State()
	s.Orders[1].Kind, s.Orders[1].Lines[0].Back = api.Released, 4
	before := copies.State(s)
	x, left, e := alloc.Take(sample.Plan(), s, 1, 0, 4, -1)
	if left != 2 || e != api.OK {
		t.Fatalf("Take is %v %d %d", x, left, e)
	}
	if !reflect.DeepEqual(s, before) || s.Holds[:4][3] != (api.Hold{}) {
		t.Errorf("what was handed in is %v now", s)
	}
	if !apart(s, x) {
		t.Error("the answer shares memory")
	}
}

// lacking is the sample with nothing of the second good held: six are to be had then, of which the front gets four.
func lacking() api.State {
	s := sample.State()
	s.Orders[0].Lines[1].Back, s.Holds = 9, s.Holds[:2]
	return s
}

// An added move goes into a list that was handed in with spare room.
func TestP2FillIsNewMemory(t *testing.T) {
	s := lacking()
	x, e := fill.Fill(sample.Plan(), s)
	if e != api.OK || len(x.Moves) != 2 || x.Moves[1] != (api.Move{Good: 1, From: 2, To: 1, N: 4}) {
		t.Fatalf("Fill is %v %d", x, e)
	}
	if !alike(s, lacking()) {
		t.Errorf("what was handed in is %v now", s)
	}
	if !apart(s, x) {
		t.Error("the answer shares memory")
	}
}

// closing is the sample with an order of one line, of which the last piece is held.
func closing() api.State {
	s := lacking()
	s.Orders[1] = api.Order{Kind: api.Released, Lines: []api.Line{{Good: 1, Want: 2, Got: 1}}}
	s.Holds = append(s.Holds, api.Hold{Order: 1, Line: 0, Bin: 2, N: 1})
	return s
}

func TestP2PickOfTheLastPieceIsNewMemory(t *testing.T) {
	s := closing()
	x, e := pick.Pick(sample.Plan(), s, 1, 0, 2, 1)
	if e != api.OK || x.Orders[1].Kind != api.Closed {
		t.Fatalf("Pick is %v %d", x, e)
	}
	if !alike(s, closing()) {
		t.Errorf("what was handed in is %v now", s)
	}
	if !apart(s, x) {
		t.Error("the answer shares memory")
	}
}

func TestP2EnteredLinesAreNewMemory(t *testing.T) {
	l := []api.Line{{Want: 1}, {Good: 1, Want: 2}, {Good: 7, Want: 7}}[:2]
	x, _ := recv.Enter(sample.Plan(), sample.State(), l)
	if l[0] != (api.Line{Want: 1}) || l[1] != (api.Line{Good: 1, Want: 2}) || l[:3][2] != (api.Line{Good: 7, Want: 7}) {
		t.Errorf("the lines that were handed in are %v now", l[:3])
	}
	if !apart(x, api.State{Orders: []api.Order{{Lines: l}}}) {
		t.Error("the answer shares memory with them")
	}
}

func TestP2WhatBeginsIsNewMemory(t *testing.T) {
	first, _ := state.Begin(sample.Plan())
	second, _ := state.Begin(sample.Plan())
	text := "\x01\x00\x00\x00\x09\x00" + "\x02\x00\x00\x00\x00\x01\x00\x04\x00\x00" + "\x03\x00\x00\x00\x00\x00" + "\x06\x00\x00\x00\x00\x00"
	third, _, _ := log.Recover(sample.Plan(), text)
	fourth, n, _ := log.Recover(sample.Plan(), text)
	if n != 4 || len(fourth.Holds) == 0 || len(fourth.Moves) == 0 {
		t.Fatalf("Recover is %v %d", fourth, n)
	}
	if !apart(first, second, third, fourth) {
		t.Error("two that are begun, or recovered, share memory, or lists of one")
	}
}

func TestP2StatesAreOnlyRead(t *testing.T) {
	s, p := sample.State(), sample.Plan()
	plan.Way(p)
	shelf.Used(p, s.On, 0)
	state.Check(p, s)
	state.Avail(p, s, 0, 0)
	state.Free(p, s, 0)
	book.Totals(p, s)
	book.Open(p, s)
	if !untouched(s) || !reflect.DeepEqual(p, sample.Plan()) {
		t.Errorf("what was handed in is %v %v now", p, s)
	}
}

func TestP2CopiesAreNewMemory(t *testing.T) {
	s := sample.State()
	c, rows := copies.State(s), copies.Rows(s.On)
	if !untouched(s) {
		t.Error("what was copied is changed")
	}
	if !apart(s, c, api.State{On: rows}) {
		t.Error("a copy shares memory")
	}
	row, lines := []int{1, 2}, []api.Line{{Want: 1}}
	alike := api.State{
		On: [][]int{row, row}, In: row, Out: row, Fixed: row,
		Orders: []api.Order{{Lines: lines}, {Lines: lines}},
	}
	if !apart(copies.State(alike)) {
		t.Error("lists that share memory share some when copied")
	}
}

func TestP3TheSameIsAnsweredAgain(t *testing.T) {
	for _, a := range acts() {
		first, e := a.do(sample.Plan(), sample.State())
		for _, other := range acts() {
			other.do(sample.Plan(), sample.State())
		}
		if second, f := a.do(sample.Plan(), sample.State()); e != f || !reflect.DeepEqual(first, second) {
			t.Errorf("%s: %v %d, and then %v %d", a.name, first, e, second, f)
		}
	}
}
