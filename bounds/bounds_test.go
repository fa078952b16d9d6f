package bounds_test

import (
	"math"
	"testing"

	"weighhouse/bounds"
)

func TestWithin(t *testing.T) {
	cases := []struct {
		n, low, high int
		want         bool
	}{
		{1, 1, 3, true}, {3, 1, 3, true}, {0, 1, 3, false}, {4, 1, 3, false}, {2, 3, 1, false},
		{math.MinInt, 0, 1, false}, {math.MaxInt, 0, 1, false},
	}
	for _, c := range cases {
		if got := bounds.Within(c.n, c.low, c.high); got != c.want {
			t.Errorf("Within(%d, %d, %d) is %v", c.n, c.low, c.high, got)
		}
	}
}

func TestHas(t *testing.T) {
	cases := []struct {
		count, n int
		want     bool
	}{
		{2, 0, true}, {2, 1, true}, {2, 2, false}, {2, -1, false}, {0, 0, false}, {0, -1, false},
	}
	for _, c := range cases {
		if got := bounds.Has(c.count, c.n); got != c.want {
			t.Errorf("Has(%d, %d) is %v", c.count, c.n, got)
		}
	}
}
