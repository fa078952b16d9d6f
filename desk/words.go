package desk

import (
	"strconv"

	"weighhouse/api"
	"weighhouse/bounds"
)

// greatest is the last number of six digits.
const greatest = 999999

// verb is what an act's word asks for: so many numbers, and the act that they make.
type verb struct {
	least, most int
	build       func(n []int) api.Act
}

func verbs() map[string]verb {
	return map[string]verb{
		"receive": {3, 3, func(n []int) api.Act { return api.Act{Kind: api.ActReceive, A: n[0], B: n[1], N: n[2]} }},
		"enter":   {2, 2 * api.MaxLines, func(n []int) api.Act { return api.Act{Kind: api.ActEnter, Lines: lines(n)} }},
		"release": {0, 0, func(n []int) api.Act { return api.Act{Kind: api.ActRelease} }},
		"cancel":  {1, 1, func(n []int) api.Act { return api.Act{Kind: api.ActCancel, A: n[0]} }},
		"pick":    {4, 4, func(n []int) api.Act { return api.Act{Kind: api.ActPick, A: n[0], B: n[1], C: n[2], N: n[3]} }},
		"fill":    {0, 0, func(n []int) api.Act { return api.Act{Kind: api.ActFill} }},
		"moved":   {2, 2, func(n []int) api.Act { return api.Act{Kind: api.ActMoved, A: n[0], N: n[1]} }},
		"count":   {3, 3, func(n []int) api.Act { return api.Act{Kind: api.ActCount, A: n[0], B: n[1], N: n[2]} }},
	}
}

func (v verb) act(numbers []int) api.Act {
	if !bounds.Within(len(numbers), v.least, v.most) {
		panic(api.ErrForm)
	}
	return v.build(numbers)
}

// lines makes a line of each two numbers.
func lines(numbers []int) []api.Line {
	if len(numbers)%2 != 0 {
		panic(api.ErrForm)
	}
	var l []api.Line
	for i := 0; i < len(numbers); i += 2 {
		l = append(l, api.Line{Good: numbers[i], Want: numbers[i+1]})
	}
	return l
}

// read reads words that are numbers, all of them.
func read(words []string) []int {
	numbers := make([]int, len(words))
	for i, w := range words {
		n, _ := strconv.Atoi(w)
		// A number is written in one way only, and what is no number in none.
		if !bounds.Within(n, 0, greatest) || strconv.Itoa(n) != w {
			panic(api.ErrForm)
		}
		numbers[i] = n
	}
	return numbers
}

// row is the numbers that a line gives.
type row struct{ words []string }

func (r *row) put(numbers ...int) {
	for _, n := range numbers {
		r.words = append(r.words, strconv.Itoa(n))
	}
}
