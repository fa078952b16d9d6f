package bins_test

import (
	"slices"
	"testing"

	"weighhouse/api"
	"weighhouse/bins"
	"weighhouse/sample"
)

func TestOf(t *testing.T) {
	lane := api.Plan{Bins: []api.Bin{{Front: true}, {}, {}, {Front: true}, {}}}
	cases := []struct {
		p     api.Plan
		front bool
		want  []int
	}{
		{lane, true, []int{0, 3}},
		{lane, false, []int{1, 2, 4}},
		{sample.Plan(), true, []int{1}},
		{api.Plan{Bins: []api.Bin{{}}}, true, nil},
		{api.Plan{}, false, nil},
	}
	for _, c := range cases {
		if l := slices.Collect(bins.Of(c.p, c.front)); !slices.Equal(l, c.want) {
			t.Errorf("Of %v, %v, goes through %v, must be %v", c.p, c.front, l, c.want)
		}
	}
}

func TestOfIsLeftEarly(t *testing.T) {
	for bin := range bins.Of(sample.Plan(), false) {
		if bin != 0 {
			t.Fatalf("it goes on to %d", bin)
		}
		break
	}
}

func TestLying(t *testing.T) {
	s := sample.State()
	s.Moves = append(s.Moves, api.Move{Good: 1, From: 2, To: 1, N: 6}, api.Move{Good: 0, From: 1, To: 2, N: 1}, api.Move{Good: 0, From: 2, To: 1, N: 2})
	want := [][]int{{9, 0}, {10, 6}, {1, 6}}
	for bin, row := range want {
		for good, n := range row {
			if lying := bins.Lying(s, bin, good); lying != n {
				t.Errorf("of good %d lie in bin %d %d, must be %d", good, bin, lying, n)
			}
		}
	}
}
