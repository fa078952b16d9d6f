package log

import (
	"math"

	"weighhouse/api"
	"weighhouse/bounds"
)

// writer has the bytes of an act, and whether all of its numbers could be bytes.
type writer struct {
	bytes   []byte
	outside bool
}

// put goes on behind a number that is no byte, as one kind of error is told of all numbers, ahead of the next kind.
func (w *writer) put(numbers ...int) {
	for _, n := range numbers {
		w.outside = w.outside || !bounds.Within(n, 0, math.MaxUint8)
		w.bytes = append(w.bytes, byte(n))
	}
}

// reader has a text, and how much of it was read.
type reader struct {
	text string
	at   int
}

// act reads an act: ErrForm, if there is none. Whatever finds that out leaves by a panic.
func (r *reader) act() (x api.Act, e api.Errno) {
	defer func() {
		if left := recover(); left != nil {
			x, e = api.Act{}, left.(api.Errno)
		}
	}()
	lines := 0
	r.get(&x.Kind, &x.A, &x.B, &x.C, &x.N, &lines)
	if lines > api.MaxLines {
		panic(api.ErrForm)
	}
	for range lines {
		var l api.Line
		r.get(&l.Good, &l.Want, &l.Got, &l.Back)
		x.Lines = append(x.Lines, l)
	}
	return x, api.OK
}

// get reads a byte for each number.
func (r *reader) get(numbers ...*int) {
	for _, n := range numbers {
		if r.at == len(r.text) {
			panic(api.ErrForm)
		}
		*n = int(r.text[r.at])
		r.at++
	}
}
