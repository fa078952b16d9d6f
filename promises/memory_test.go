// Package promises has tests of the promises that hold for all layers.
package promises

import (
	"slices"
	"testing"

	"weighhouse/api"
	"weighhouse/sample"
)

// numbers are all numbers of a state, where they lie; with those in the spare room of its lists, or without.
func numbers(s api.State, spare bool) []*int {
	l := slices.Concat(ints(s.In, spare), ints(s.Out, spare), ints(s.Fixed, spare))
	for _, row := range span(s.On, spare) {
		l = append(l, ints(row, spare)...)
	}
	orders := span(s.Orders, spare)
	for i := range orders {
		l = append(l, &orders[i].Kind)
		lines := span(orders[i].Lines, spare)
		for j := range lines {
			l = append(l, &lines[j].Good, &lines[j].Want, &lines[j].Got, &lines[j].Back)
		}
	}
	holds := span(s.Holds, spare)
	for i := range holds {
		l = append(l, &holds[i].Order, &holds[i].Line, &holds[i].Bin, &holds[i].N)
	}
	moves := span(s.Moves, spare)
	for i := range moves {
		l = append(l, &moves[i].Good, &moves[i].From, &moves[i].To, &moves[i].N)
	}
	return l
}

func span[T any](l []T, spare bool) []T {
	if spare {
		return l[:cap(l)]
	}
	return l
}

func ints(l []int, spare bool) []*int {
	l = span(l, spare)
	at := make([]*int, len(l))
	for i := range l {
		at[i] = &l[i]
	}
	return at
}

// untouched tells whether a state is as the sample, with its spare room.
func untouched(s api.State) bool { return alike(s, sample.State()) }

// alike tells whether two states have the same numbers, those in the spare room of their lists too.
func alike(a, b api.State) bool {
	same := func(a, b *int) bool { return *a == *b }
	return slices.EqualFunc(numbers(a, true), numbers(b, true), same)
}

// apart tells whether no two lists of these states share memory. It writes over all of them: where two share some, a number that was written first is gone.
func apart(states ...api.State) bool {
	var all []*int
	for _, s := range states {
		all = append(all, numbers(s, true)...)
	}
	for i, n := range all {
		*n = i
	}
	for i, n := range all {
		if *n != i {
			return false
		}
	}
	return true
}

func TestUntouchedSeesEveryNumber(t *testing.T) {
	if !untouched(sample.State()) {
		t.Fatal("the state itself is said to be touched")
	}
	count := len(numbers(sample.State(), true))
	if less := len(numbers(sample.State(), false)); less >= count {
		t.Fatalf("%d numbers with the spare room, %d without", count, less)
	}
	for i := range count {
		s := sample.State()
		*numbers(s, true)[i]++
		if untouched(s) {
			t.Errorf("a change of number %d is not seen", i)
		}
	}
}

func TestUntouchedSeesSpareRows(t *testing.T) {
	s := sample.State()
	_ = append(s.On, []int{1})
	if untouched(s) {
		t.Error("a row behind the last one is not seen")
	}
}

func TestApart(t *testing.T) {
	if !apart(sample.State(), sample.State()) {
		t.Fatal("two states are said to share memory")
	}
	shared := map[string]func(a, b *api.State){
		"a list of one": func(a, b *api.State) { a.In = a.Out },
		"rows":          func(a, b *api.State) { a.On = b.On },
		"a row":         func(a, b *api.State) { a.On[1] = b.On[0] },
		"orders":        func(a, b *api.State) { a.Orders = b.Orders },
		"lines":         func(a, b *api.State) { a.Orders[0].Lines = b.Orders[1].Lines },
		"holds":         func(a, b *api.State) { a.Holds = b.Holds },
		"moves":         func(a, b *api.State) { a.Moves = b.Moves },
		"spare room":    func(a, b *api.State) { a.Fixed = b.Fixed[2:] },
	}
	for name, share := range shared {
		a, b := sample.State(), sample.State()
		share(&a, &b)
		if apart(a, b) {
			t.Errorf("%s: not seen", name)
		}
	}
}
