package copies_test

import (
	"reflect"
	"testing"

	"weighhouse/api"
	"weighhouse/copies"
	"weighhouse/sample"
)

func TestStateIsTheSame(t *testing.T) {
	s := sample.State()
	s.Out, s.Fixed = []int{3, 4}, []int{5, 6} // so that no list could stand for another one
	if c := copies.State(s); !reflect.DeepEqual(c, s) {
		t.Errorf("the copy is %v, must be %v", c, s)
	}
}

func TestRowsAreTheSame(t *testing.T) {
	on := [][]int{{1, 2}, {3}, nil, {4, 5, 6}}
	c := copies.Rows(on)
	if !reflect.DeepEqual(c, on) {
		t.Errorf("the copy is %v, must be %v", c, on)
	}
}

func TestNothingIsCopiedToNothing(t *testing.T) {
	c := copies.State(api.State{})
	if len(c.On)+len(c.Orders)+len(c.Holds)+len(c.Moves)+len(c.In)+len(c.Out)+len(c.Fixed) != 0 {
		t.Errorf("the copy of nothing is %v", c)
	}
}

// That every list of a copy is new memory is tested in package promises.
func TestWhatIsWrittenToACopyIsNotSeen(t *testing.T) {
	s := sample.State()
	c := copies.State(s)
	c.On[0][0], c.Orders[0].Lines[0].Got, c.Holds[0].N, c.Moves[0].N, c.In[0] = 1, 2, 3, 4, 5
	if !reflect.DeepEqual(s, sample.State()) {
		t.Errorf("what was copied is %v now", s)
	}
}
