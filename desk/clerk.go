package desk

import (
	"strconv"
	"strings"

	"weighhouse/api"
	"weighhouse/book"
	"weighhouse/bounds"
	"weighhouse/log"
)

// clerk has the state by now.
type clerk struct {
	plan  api.Plan
	state api.State
}

// answer is what a line gives. Whatever finds an error leaves the line by a panic with it.
func (c *clerk) answer(line string) (given string) {
	defer func() {
		if left := recover(); left != nil {
			given = "error " + strconv.Itoa(int(left.(api.Errno)))
		}
	}()
	words := strings.Split(line, " ")
	numbers := read(words[1:])
	if v, ok := verbs()[words[0]]; ok {
		c.do(v.act(numbers))
		return "ok"
	}
	return c.show(words[0], numbers)
}

// leaveIf leaves a line that has an error.
func leaveIf(e api.Errno) {
	if e != api.OK {
		panic(e)
	}
}

func (c *clerk) do(x api.Act) {
	after, e := log.Do(c.plan, c.state, x)
	leaveIf(e)
	c.state = after
}

func (c *clerk) show(word string, numbers []int) string {
	var r row
	switch {
	case word == "shelf" && len(numbers) == 1:
		c.showShelf(&r, numbers[0])
	case word == "order" && len(numbers) == 1:
		c.showOrder(&r, numbers[0])
	case word == "holds" && len(numbers) == 0:
		for _, h := range c.state.Holds {
			r.put(h.Order, h.Line, h.Bin, h.N)
		}
	case word == "moves" && len(numbers) == 0:
		for _, m := range c.state.Moves {
			r.put(m.Good, m.From, m.To, m.N)
		}
	case word == "open" && len(numbers) == 0:
		open, e := book.Open(c.plan, c.state)
		leaveIf(e)
		r.put(open)
	default:
		panic(api.ErrForm)
	}
	return strings.Join(r.words, " ")
}

func (c *clerk) showShelf(r *row, bin int) {
	if !bounds.Has(len(c.state.On), bin) {
		panic(api.ErrNone)
	}
	r.put(c.state.On[bin]...)
}

func (c *clerk) showOrder(r *row, order int) {
	if !bounds.Has(len(c.state.Orders), order) {
		panic(api.ErrNone)
	}
	o := c.state.Orders[order]
	r.put(o.Kind)
	for _, l := range o.Lines {
		r.put(l.Want, l.Got, l.Back)
	}
}
