// Package sample has a small warehouse that the layers' tests begin with.
package sample

import "weighhouse/api"

// Plan has three bins, the second one in front, and two goods.
func Plan() api.Plan {
	return api.Plan{
		Bins:  []api.Bin{{Room: 100}, {Front: true, Room: 30, Low: 4, High: 8}, {Room: 60}},
		Sizes: []int{2, 3},
	}
}

// State is a right one of Plan. Its lists have spare room, in which a write would be seen.
func State() api.State {
	return api.State{
		On: roomy([][]int{roomy([]int{9, 0}), roomy([]int{3, 0}), roomy([]int{0, 6})}),
		Orders: roomy([]api.Order{
			{Kind: api.Released, Lines: roomy([]api.Line{{Good: 0, Want: 6, Got: 1}, {Good: 1, Want: 9, Back: 3}})},
			{Kind: api.Entered, Lines: roomy([]api.Line{{Good: 0, Want: 4}})},
		}),
		Holds: roomy([]api.Hold{{Order: 0, Line: 0, Bin: 0, N: 2}, {Order: 0, Line: 0, Bin: 1, N: 3}, {Order: 0, Line: 1, Bin: 2, N: 6}}),
		Moves: roomy([]api.Move{{Good: 0, From: 0, To: 1, N: 5}}),
		In:    roomy([]int{13, 6}), Out: roomy([]int{1, 0}), Fixed: roomy([]int{0, 0}),
	}
}

// Wrong is a plan and a state, and the error that state.Check tells of them.
type Wrong struct {
	Plan  api.Plan
	State api.State
	Errno api.Errno
}

// Wrongs has one of each error, and each way to hand in nothing.
func Wrongs() []Wrong {
	form, sum, many := State(), State(), State()
	form.Holds[0].N, sum.In[0], many.Orders[1].Lines = 0, 0, nil
	sizeless := Plan()
	sizeless.Sizes[0] = 0
	return []Wrong{
		{Plan(), form, api.ErrForm}, {Plan(), sum, api.ErrSum}, {Plan(), many, api.ErrMany}, {sizeless, State(), api.ErrRange},
		{api.Plan{}, State(), api.ErrMany}, {Plan(), api.State{}, api.ErrForm}, {api.Plan{}, api.State{}, api.ErrMany},
	}
}

// roomy copies a list into one that has spare room.
func roomy[T any](l []T) []T {
	return append(make([]T, 0, len(l)+2), l...)
}
