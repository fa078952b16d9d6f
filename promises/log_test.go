package promises

import (
	"reflect"
	"slices"
	"strconv"
	"strings"
	"testing"

	"weighhouse/api"
	"weighhouse/book"
	"weighhouse/desk"
	"weighhouse/log"
	"weighhouse/state"
)

// drawn is an act that may well be done to a state, or have an error; its numbers can be written, and said at the desk.
func drawn(s api.State, d *draw) api.Act {
	switch kind := 1 + d.below(10); kind {
	case api.ActEnter:
		l := make([]api.Line, 1+d.below(api.MaxLines))
		for i := range l {
			l[i] = api.Line{Good: d.below(2), Want: 1 + d.below(9)}
		}
		return api.Act{Kind: kind, Lines: l}
	case api.ActRelease, api.ActFill:
		return api.Act{Kind: kind}
	case api.ActCancel:
		return api.Act{Kind: kind, A: d.below(12)}
	case api.ActMoved:
		return api.Act{Kind: kind, A: d.below(3), N: d.below(7)}
	case api.ActPick:
		if len(s.Holds) > 0 && d.below(9) > 0 {
			h := s.Holds[d.below(len(s.Holds))]
			return api.Act{Kind: kind, A: h.Order, B: h.Line, C: h.Bin, N: d.below(h.N + 2)}
		}
		return api.Act{Kind: kind, A: d.below(5), B: d.below(4), C: d.below(6), N: d.below(20)}
	case api.ActCount:
		return api.Act{Kind: kind, A: d.below(6), B: d.below(3), N: d.below(20)}
	}
	return api.Act{Kind: api.ActReceive, A: d.below(6), B: d.below(3), N: d.below(12)}
}

// done is one act of a walk, what it tells, and what there is then.
type done struct {
	act   api.Act
	errno api.Errno
	after api.State
}

// walk does as many acts as a log may have, from the beginning on.
func walk(t *testing.T, p api.Plan, seed int) []done {
	d := draw(seed)
	s, _ := state.Begin(p)
	var l []done
	for range api.MaxActs {
		x := drawn(s, &d)
		after, e := log.Do(p, s, x)
		if e == api.OK {
			s = after
		}
		if told := state.Check(p, s); told != api.OK {
			t.Fatalf("of %v comes %v: Check tells %d", x, s, told)
		}
		askBook(t, p, s)
		l = append(l, done{x, e, s})
	}
	return l
}

// Wherever a log is cut, what is recovered is what was done by the acts that are whole.
func TestL4LogsOfWalks(t *testing.T) {
	p := yard()
	for seed := range 20 {
		want, _ := state.Begin(p)
		text, size := "", 0
		for n, x := range walk(t, p, seed) {
			written, e := log.Write(x.act)
			if e != api.OK {
				t.Fatalf("Write of %v is %d", x.act, e)
			}
			text += written
			for ; size < len(text); size++ {
				if s, k, e := log.Recover(p, text[:size]); k != n || e != api.OK || !same(s, want) {
					t.Fatalf("Recover of %q is\n%v %d %d, must be\n%v %d", text[:size], s, k, e, want, n)
				}
			}
			want = x.after
		}
		if s, k, e := log.Recover(p, text); k != api.MaxActs || e != api.OK || !same(s, want) {
			t.Fatalf("Recover of %q is\n%v %d %d, must be\n%v", text, s, k, e, want)
		}
	}
}

// Of bytes of any kind, those that acts have are what Write makes of these acts, and no act begins behind them.
func TestL2OddBytes(t *testing.T) {
	for seed := range 2000 {
		d := draw(seed)
		b := make([]byte, d.below(500))
		most := []int{2, 4, 5, 9, 256}[d.below(5)]
		for i := range b {
			b[i] = byte(d.below(most))
		}
		l, n, e := log.Replay(string(b))
		again := ""
		for _, x := range l {
			written, _ := log.Write(x)
			again += written
		}
		if e != api.OK || n != len(again) || again != string(b[:n]) || len(l) > api.MaxActs {
			t.Fatalf("Replay of %q is %v %d %d", b, l, n, e)
		}
		if more, _, _ := log.Replay(string(b[n:])); len(l) < api.MaxActs && len(more) > 0 {
			t.Fatalf("Replay of %q ends behind %d, where there is %v", b, n, more[0])
		}
		if s, k, e := log.Recover(yard(), string(b)); e != api.OK || k != len(l) || state.Check(yard(), s) != api.OK {
			t.Fatalf("Recover of %q is %v %d %d", b, s, k, e)
		}
	}
}

// spoken is the line by which an act is asked for.
func spoken(x api.Act) string {
	switch x.Kind {
	case api.ActReceive:
		return spaced("receive", x.A, x.B, x.N)
	case api.ActEnter:
		var l []int
		for _, y := range x.Lines {
			l = append(l, y.Good, y.Want)
		}
		return spaced("enter", l...)
	case api.ActRelease:
		return "release"
	case api.ActCancel:
		return spaced("cancel", x.A)
	case api.ActPick:
		return spaced("pick", x.A, x.B, x.C, x.N)
	case api.ActFill:
		return "fill"
	case api.ActMoved:
		return spaced("moved", x.A, x.N)
	}
	return spaced("count", x.A, x.B, x.N)
}

func spaced(word string, numbers ...int) string {
	for _, n := range numbers {
		word += " " + strconv.Itoa(n)
	}
	return strings.TrimPrefix(word, " ")
}

// shown is a line that shows something, and what it gives.
func shown(p api.Plan, s api.State, d *draw) (line, given string) {
	var l []int
	switch d.below(5) {
	case 0:
		bin := d.below(6)
		if bin == 5 {
			return "shelf 5", "error 4"
		}
		return spaced("shelf", bin), spaced("", s.On[bin]...)
	case 1:
		order := d.below(5)
		if order >= len(s.Orders) {
			return spaced("order", order), "error 4"
		}
		l = append(l, s.Orders[order].Kind)
		for _, x := range s.Orders[order].Lines {
			l = append(l, x.Want, x.Got, x.Back)
		}
		return spaced("order", order), spaced("", l...)
	case 2:
		for _, h := range s.Holds {
			l = append(l, h.Order, h.Line, h.Bin, h.N)
		}
		return "holds", spaced("", l...)
	case 3:
		for _, m := range s.Moves {
			l = append(l, m.Good, m.From, m.To, m.N)
		}
		return "moves", spaced("", l...)
	}
	open, _ := book.Open(p, s)
	return "open", spaced("", open)
}

// What is asked for at the desk is done as acts are, and shown.
func TestM1Walks(t *testing.T) {
	p := yard()
	for seed := range 100 {
		d := draw(seed)
		var script, want []string
		for _, x := range walk(t, p, seed)[:api.MaxActs/2] {
			given := "ok"
			if x.errno != api.OK {
				given = spaced("error", int(x.errno))
			}
			line, numbers := shown(p, x.after, &d)
			script, want = append(script, spoken(x.act)+"\n", line+"\n"), append(want, given+"\n", numbers+"\n")
		}
		s, e := desk.Play(p, strings.Join(script, ""))
		if got := strings.SplitAfter(s, "\n"); e != api.OK || !slices.Equal(got, append(want, "")) {
			t.Fatalf("Play of %q is\n%q %d, must be\n%q", script, got, e, want)
		}
	}
}

// Scripts in which bytes are changed: each line gives one line, and none of them hangs on those behind it.
func TestM2OddScripts(t *testing.T) {
	p := yard()
	for seed := range 500 {
		d := draw(seed)
		script := ""
		for _, x := range walk(t, p, seed%20)[:20] {
			script += spoken(x.act) + "\n"
		}
		b := []byte(script)
		for range 1 + d.below(6) {
			b[d.below(len(b)-1)] = []byte("0129 \n\n+-x\x00\xff")[d.below(12)]
		}
		s, e := desk.Play(p, string(b))
		if e != api.OK || strings.Count(s, "\n") != strings.Count(string(b), "\n") || !strings.HasSuffix(s, "\n") {
			t.Fatalf("Play of %q is %q %d", b, s, e)
		}
		lines := strings.SplitAfter(string(b), "\n")
		ahead := strings.Join(lines[:d.below(len(lines))], "")
		if less, e := desk.Play(p, ahead); e != api.OK || !strings.HasPrefix(s, less) {
			t.Fatalf("Play of %q is %q %d, and of all %q", ahead, less, e, s)
		}
	}
}

func TestP2LogAndDeskOnlyReadPlans(t *testing.T) {
	p := yard()
	log.Recover(p, "\x01\x00\x00\x00\x09\x00\x06\x00\x00\x00\x00\x00")
	desk.Play(p, "receive 0 0 9\nfill\nshelf 0\nopen\n")
	if !reflect.DeepEqual(p, yard()) {
		t.Errorf("the plan that was handed in is %v now", p)
	}
}
