package log_test

import (
	"math"
	"reflect"
	"slices"
	"strings"
	"testing"

	"weighhouse/api"
	"weighhouse/count"
	"weighhouse/fill"
	"weighhouse/log"
	"weighhouse/pick"
	"weighhouse/recv"
	"weighhouse/sample"
	"weighhouse/state"
	"weighhouse/wave"
)

func line(good, want, got, back int) api.Line {
	return api.Line{Good: good, Want: want, Got: got, Back: back}
}

// kinds are those that acts have.
func kinds() []int {
	return []int{api.ActReceive, api.ActEnter, api.ActRelease, api.ActCancel, api.ActPick, api.ActFill, api.ActMoved, api.ActCount}
}

// called does an act by the call that the chapter names for its kind.
func called(p api.Plan, s api.State, x api.Act) (api.State, api.Errno) {
	calls := map[int]func() (api.State, api.Errno){
		api.ActReceive: func() (api.State, api.Errno) { return recv.Receive(p, s, x.A, x.B, x.N) },
		api.ActEnter:   func() (api.State, api.Errno) { return recv.Enter(p, s, x.Lines) },
		api.ActRelease: func() (api.State, api.Errno) { return wave.Release(p, s) },
		api.ActCancel:  func() (api.State, api.Errno) { return wave.Cancel(p, s, x.A) },
		api.ActPick:    func() (api.State, api.Errno) { return pick.Pick(p, s, x.A, x.B, x.C, x.N) },
		api.ActFill:    func() (api.State, api.Errno) { return fill.Fill(p, s) },
		api.ActMoved:   func() (api.State, api.Errno) { return fill.Moved(p, s, x.A, x.N) },
		api.ActCount:   func() (api.State, api.Errno) { return count.Count(p, s, x.A, x.B, x.N) },
	}
	return calls[x.Kind]()
}

// Each kind with numbers that are there and that are not, those that count for nothing among them.
func TestL1DoIsTheCallOfItsKind(t *testing.T) {
	lines := [][]api.Line{nil, {{Good: 1, Want: 2}}, {{Good: 0, Want: 1}, {Good: 1, Want: 3}, {Good: 0, Want: 200}}, {{Good: 2, Want: 1}}, {{Want: 1, Got: 1}}, make([]api.Line, 4)}
	for _, kind := range kinds() {
		done := map[api.Errno]bool{}
		for n := range 5 * 4 * 5 * 8 {
			x := api.Act{Kind: kind, A: n%5 - 1, B: n/5%4 - 1, C: n/20%5 - 1, N: n/100 - 1, Lines: lines[n%len(lines)]}
			s, e := log.Do(sample.Plan(), sample.State(), x)
			want, f := called(sample.Plan(), sample.State(), x)
			if e != f || !reflect.DeepEqual(s, want) {
				t.Errorf("Do of %v is\n%v %d, must be\n%v %d", x, s, e, want, f)
			}
			done[e] = true
		}
		if !done[api.OK] || len(done) == 1 && kind != api.ActRelease && kind != api.ActFill {
			t.Errorf("kind %d tells but %v", kind, done)
		}
	}
}

func TestL1DoOfEachKind(t *testing.T) {
	cases := []struct {
		x      api.Act
		change func(s *api.State)
	}{
		{api.Act{Kind: api.ActReceive, A: 2, B: 1, C: 9, N: 5, Lines: make([]api.Line, 9)}, func(s *api.State) { s.On[2][1], s.In[1] = 11, 11 }},
		{api.Act{Kind: api.ActEnter, A: 9, B: 9, C: 9, N: 999, Lines: []api.Line{{Good: 1, Want: 2}}}, func(s *api.State) {
			s.Orders = append(s.Orders, api.Order{Lines: []api.Line{{Good: 1, Want: 2}}})
		}},
		{api.Act{Kind: api.ActRelease, A: -1, N: 999}, func(s *api.State) {
			s.Orders[1].Kind, s.Orders[1].Lines[0].Back = api.Released, 2
			s.Holds = append(s.Holds, api.Hold{Order: 1, N: 2})
		}},
		{api.Act{Kind: api.ActCancel, A: 1, B: 9, C: 9, N: -9}, func(s *api.State) { s.Orders[1].Kind, s.Orders[1].Lines[0].Back = api.Closed, 4 }},
		{api.Act{Kind: api.ActPick, A: 0, B: 1, C: 2, N: 6}, func(s *api.State) {
			s.On[2][1], s.Out[1], s.Orders[0].Lines[1].Got, s.Holds = 0, 6, 6, s.Holds[:2]
		}},
		{api.Act{Kind: api.ActFill, A: 9, B: -9, C: 9, N: 9}, func(s *api.State) {}},
		{api.Act{Kind: api.ActMoved, A: 0, B: 9, C: 9, N: 5}, func(s *api.State) { s.On[0][0], s.On[1][0], s.Moves = 4, 8, nil }},
		{api.Act{Kind: api.ActCount, A: 1, B: 1, C: 9, N: 3}, func(s *api.State) { s.On[1][1], s.Fixed[1] = 3, 3 }},
	}
	for _, c := range cases {
		want := sample.State()
		c.change(&want)
		s, e := log.Do(sample.Plan(), sample.State(), c.x)
		if len(s.Moves) == 0 {
			s.Moves = nil // it may be nil or not
		}
		if e != api.OK || !reflect.DeepEqual(s, want) {
			t.Errorf("Do of %v is\n%v %d, must be\n%v", c.x, s, e, want)
		}
	}
}

// It is told ahead of what is wrong with a state.
func TestL1NoSuchKind(t *testing.T) {
	for _, kind := range []int{0, 9, 10, -1, 255, 256, 257, math.MinInt, math.MaxInt} {
		x := api.Act{Kind: kind, B: 1, N: 1, Lines: []api.Line{{Want: 1}}}
		for _, c := range append(sample.Wrongs(), sample.Wrong{Plan: sample.Plan(), State: sample.State()}) {
			if s, e := log.Do(c.Plan, c.State, x); e != api.ErrKind || !reflect.DeepEqual(s, api.State{}) {
				t.Errorf("Do of kind %d is %v %d, must be nothing and %d", kind, s, e, api.ErrKind)
			}
		}
	}
}

func TestL1StatesErrors(t *testing.T) {
	for _, c := range sample.Wrongs() {
		for _, kind := range kinds() {
			for _, n := range []int{0, 1, -1, math.MinInt, math.MaxInt} {
				x := api.Act{Kind: kind, A: n, B: n, C: n, N: n}
				if s, e := log.Do(c.Plan, c.State, x); e != c.Errno || !reflect.DeepEqual(s, api.State{}) {
					t.Errorf("Do of %v is %v %d, must be nothing and %d", x, s, e, c.Errno)
				}
			}
		}
	}
}

func TestL2Write(t *testing.T) {
	cases := []struct {
		x    api.Act
		want string
	}{
		{api.Act{Kind: api.ActReceive, A: 2, B: 1, N: 7}, "\x01\x02\x01\x00\x07\x00"},
		{api.Act{Kind: api.ActEnter, Lines: []api.Line{{Good: 1, Want: 4}}}, "\x02\x00\x00\x00\x00\x01\x01\x04\x00\x00"},
		{api.Act{}, "\x00\x00\x00\x00\x00\x00"},
		{api.Act{Lines: []api.Line{}}, "\x00\x00\x00\x00\x00\x00"},
		{api.Act{Kind: 255, A: 255, B: 255, C: 255, N: 255}, "\xff\xff\xff\xff\xff\x00"},
		{api.Act{Kind: 10, A: 20, B: 30, C: 40, N: 50, Lines: []api.Line{line(1, 2, 3, 4), line(5, 6, 7, 8)}}, "\x0a\x14\x1e\x28\x32\x02\x01\x02\x03\x04\x05\x06\x07\x08"},
		{api.Act{Lines: []api.Line{line(0, 255, 128, 127), {}, line(255, 255, 255, 255)}}, "\x00\x00\x00\x00\x00\x03\x00\xff\x80\x7f\x00\x00\x00\x00\xff\xff\xff\xff"},
	}
	for _, c := range cases {
		if s, e := log.Write(c.x); s != c.want || e != api.OK {
			t.Errorf("Write of %v is %q %d, must be %q", c.x, s, e, c.want)
		}
	}
}

// fields are all numbers of an act.
func fields(x *api.Act) []*int {
	l := []*int{&x.Kind, &x.A, &x.B, &x.C, &x.N}
	for i := range x.Lines {
		y := &x.Lines[i]
		l = append(l, &y.Good, &y.Want, &y.Got, &y.Back)
	}
	return l
}

// Each number in its turn, of acts with as many lines as there may be, and with one more: ErrRange is told ahead of ErrMany.
func TestL2NumbersThatAreNoByte(t *testing.T) {
	for lines := range api.MaxLines + 2 {
		for i := range 5 + 4*lines {
			for _, n := range []int{-1, 256, -256, 512, math.MinInt, math.MaxInt} {
				x := api.Act{Lines: make([]api.Line, lines)}
				*fields(&x)[i] = n
				if s, e := log.Write(x); s != "" || e != api.ErrRange {
					t.Errorf("Write of %v is %q %d, must be nothing and %d", x, s, e, api.ErrRange)
				}
			}
		}
	}
}

// How many lines there are is a byte too, so that ErrRange is told of more than 255.
func TestL2TooManyLines(t *testing.T) {
	cases := []struct {
		lines int
		want  api.Errno
	}{
		{api.MaxLines, api.OK}, {api.MaxLines + 1, api.ErrMany}, {255, api.ErrMany}, {256, api.ErrRange}, {5000, api.ErrRange},
	}
	for _, c := range cases {
		s, e := log.Write(api.Act{Kind: api.ActEnter, Lines: make([]api.Line, c.lines)})
		if e != c.want || e != api.OK && s != "" {
			t.Errorf("Write of %d lines is %q %d, must be %d", c.lines, s, e, c.want)
		}
	}
}

// some acts: of each kind and of none, with no, some and all lines.
func some() []api.Act {
	return []api.Act{
		{Kind: api.ActReceive, A: 0, B: 0, N: 9},
		{Kind: api.ActEnter, Lines: []api.Line{{Good: 0, Want: 7}, {Good: 1, Want: 2}}},
		{Kind: api.ActReceive, A: 1, B: 0, N: 3},
		{Kind: api.ActRelease},
		{Kind: 77, A: 1, B: 2, C: 3, N: 4},
		{Kind: api.ActPick, A: 0, B: 0, C: 1, N: 2},
		{Kind: api.ActReceive, A: 0, B: 0, N: 255},
		{Kind: api.ActFill},
		{Kind: api.ActEnter, Lines: []api.Line{line(0, 1, 0, 0), line(0, 2, 0, 0), line(1, 200, 0, 0)}},
		{Kind: api.ActMoved, A: 0, N: 1},
		{Kind: api.ActEnter, Lines: []api.Line{line(0, 1, 255, 254)}},
		{Kind: api.ActCount, A: 0, B: 0, N: 1},
		{Kind: api.ActCancel, A: 0},
		{Kind: api.ActRelease},
	}
}

// written is a log of acts, and where in it each of them ends.
func written(t *testing.T, acts []api.Act) (string, []int) {
	t.Helper()
	text, ends := "", []int(nil)
	for _, x := range acts {
		s, e := log.Write(x)
		if e != api.OK {
			t.Fatalf("Write of %v is %d", x, e)
		}
		text += s
		ends = append(ends, len(text))
	}
	return text, ends
}

// wholeAt is how many acts are whole, if a log is cut there.
func wholeAt(ends []int, cut int) int {
	n, found := slices.BinarySearch(ends, cut)
	if found {
		n++
	}
	return n
}

// equal tells whether acts are the same; lines that are none may be nil or not.
func equal(a, b []api.Act) bool {
	return slices.EqualFunc(a, b, func(x, y api.Act) bool {
		lines := slices.Equal(x.Lines, y.Lines)
		x.Lines, y.Lines = nil, nil
		return lines && reflect.DeepEqual(x, y)
	})
}

func TestL2ReplayOfALogThatIsCut(t *testing.T) {
	text, ends := written(t, some())
	for cut := range len(text) + 1 {
		n := wholeAt(ends, cut)
		size := 0
		if n > 0 {
			size = ends[n-1]
		}
		if l, k, e := log.Replay(text[:cut]); !equal(l, some()[:n]) || k != size || e != api.OK {
			t.Errorf("Replay of the first %d bytes is %v %d %d, must be %d acts and %d", cut, l, k, e, n, size)
		}
	}
}

func TestL2ReplayOfOddTexts(t *testing.T) {
	act := "\x01\x02\x03\x04\x05\x00"
	cases := []struct {
		name, text  string
		acts, bytes int
	}{
		{"nothing", "", 0, 0},
		{"a byte", "\x01", 0, 0},
		{"no number of lines", "\x01\x02\x03\x04\x05", 0, 0},
		{"no line of one", "\x02\x00\x00\x00\x00\x01", 0, 0},
		{"a line that ends too early", "\x02\x00\x00\x00\x00\x01\x01\x01\x00", 0, 0},
		{"a second line that ends too early", "\x02\x00\x00\x00\x00\x02" + strings.Repeat("\x01", 7), 0, 0},
		{"as many lines as there may be", "\x02\x00\x00\x00\x00\x03" + strings.Repeat("\x01", 12), 1, 18},
		{"too many lines", "\x02\x00\x00\x00\x00\x04" + strings.Repeat("\x01", 100), 0, 0},
		{"far too many lines", strings.Repeat("\xff", 2000), 0, 0},
		{"an act ahead of too many lines", act + "\x02\x00\x00\x00\x00\x04" + strings.Repeat(act, 20), 1, 6},
		{"acts ahead of letters", act + act + "receive", 2, 12},
		{"the greatest bytes", "\xff\xff\xff\xff\xff\x01\xff\xff\xff\xff" + act[:3], 1, 10},
	}
	for _, c := range cases {
		if l, n, e := log.Replay(c.text); len(l) != c.acts || n != c.bytes || e != api.OK {
			t.Errorf("%s: Replay is %v %d %d, must be %d acts and %d", c.name, l, n, e, c.acts, c.bytes)
		}
	}
}

// Of more acts than may be told nothing is read.
func TestL2ReplayTellsSoManyActs(t *testing.T) {
	short, long := "\x06\x00\x00\x00\x00\x00", "\x02\x00\x00\x00\x00\x03"+strings.Repeat("\x01", 12)
	for _, act := range []string{short, long} {
		for _, acts := range []int{api.MaxActs - 1, api.MaxActs, api.MaxActs + 1, 200} {
			l, n, e := log.Replay(strings.Repeat(act, acts))
			if told := min(acts, api.MaxActs); len(l) != told || n != told*len(act) || e != api.OK {
				t.Errorf("Replay of %d acts is %d acts, %d, %d", acts, len(l), n, e)
			}
		}
	}
	text := strings.Repeat(short, api.MaxActs)
	if l, n, e := log.Replay(text + "\xff"); len(l) != api.MaxActs || n != len(text) || e != api.OK {
		t.Errorf("Replay of %d acts and a byte is %d acts, %d, %d", api.MaxActs, len(l), n, e)
	}
}

func TestL2ReplayOfTooManyBytes(t *testing.T) {
	for _, b := range []string{"\x00", "\x04", "\xff"} {
		if _, _, e := log.Replay(strings.Repeat(b, api.MaxBytes)); e != api.OK {
			t.Errorf("Replay of %d bytes %q is %d", api.MaxBytes, b, e)
		}
		for _, n := range []int{api.MaxBytes + 1, 3 * api.MaxBytes} {
			if l, k, e := log.Replay(strings.Repeat(b, n)); len(l) != 0 || k != 0 || e != api.ErrMany {
				t.Errorf("Replay of %d bytes %q is %v %d %d, must be nothing and %d", n, b, l, k, e, api.ErrMany)
			}
		}
	}
}

// done is what comes of acts from the beginning on, and whether some had an error.
func done(acts []api.Act) (api.State, bool) {
	s, _ := state.Begin(sample.Plan())
	failed := false
	for _, x := range acts {
		after, e := log.Do(sample.Plan(), s, x)
		if e != api.OK {
			failed = true
			continue
		}
		s = after
	}
	return s, failed
}

func TestL4RecoverOfALogThatIsCut(t *testing.T) {
	text, ends := written(t, some())
	if _, failed := done(some()); !failed {
		t.Fatal("no act has an error")
	}
	for cut := range len(text) + 1 {
		n := wholeAt(ends, cut)
		want, _ := done(some()[:n])
		s, k, e := log.Recover(sample.Plan(), text[:cut])
		if !reflect.DeepEqual(s, want) || k != n || e != api.OK || state.Check(sample.Plan(), s) != api.OK {
			t.Errorf("Recover of the first %d bytes is\n%v %d %d, must be\n%v %d", cut, s, k, e, want, n)
		}
	}
}

func TestL3Recover(t *testing.T) {
	text, _ := written(t, some()[:6])
	want := api.State{
		On:     [][]int{{9, 0}, {1, 0}, {0, 0}},
		Orders: []api.Order{{Kind: api.Released, Lines: []api.Line{{Good: 0, Want: 7, Got: 2}, {Good: 1, Want: 2, Back: 2}}}},
		Holds:  []api.Hold{{Order: 0, Line: 0, Bin: 0, N: 5}},
		In:     []int{12, 0}, Out: []int{2, 0}, Fixed: []int{0, 0},
	}
	if s, n, e := log.Recover(sample.Plan(), text); !reflect.DeepEqual(s, want) || n != 6 || e != api.OK {
		t.Errorf("Recover is\n%v %d %d, must be\n%v 6", s, n, e, want)
	}
}

func TestL3RecoverOfNothing(t *testing.T) {
	begun, _ := state.Begin(sample.Plan())
	for _, text := range []string{"", "\x01", "\x01\x00\x00\x00\x09", "receive 0 0 9\n"} {
		if s, n, e := log.Recover(sample.Plan(), text); !reflect.DeepEqual(s, begun) || n != 0 || e != api.OK {
			t.Errorf("Recover of %q is %v %d %d", text, s, n, e)
		}
	}
}

// All acts have errors: they are counted, and change nothing.
func TestL3RecoverOfErrors(t *testing.T) {
	begun, _ := state.Begin(sample.Plan())
	text := strings.Repeat("\x01\x03\x00\x00\x01\x00"+"\x04\x00\x00\x00\x00\x00"+"\xff\x00\x00\x00\x00\x00", 20)
	if s, n, e := log.Recover(sample.Plan(), text); !reflect.DeepEqual(s, begun) || n != 60 || e != api.OK {
		t.Errorf("Recover is %v %d %d", s, n, e)
	}
}

// What stands behind the acts that Replay tells is not done.
func TestL3RecoverDoesSoManyActs(t *testing.T) {
	text := strings.Repeat("\x01\x00\x00\x00\x01\x00", api.MaxActs+1)
	p := api.Plan{Bins: []api.Bin{{Room: 1000}}, Sizes: []int{1}}
	if s, n, e := log.Recover(p, text); e != api.OK || n != api.MaxActs || s.On[0][0] != api.MaxActs || s.In[0] != api.MaxActs {
		t.Errorf("Recover is %v %d %d", s, n, e)
	}
}

func TestL3RecoverErrors(t *testing.T) {
	sizeless := sample.Plan()
	sizeless.Sizes[1] = 0
	long := strings.Repeat("\x06", api.MaxBytes+1)
	cases := []struct {
		p    api.Plan
		text string
		want api.Errno
	}{
		{sample.Plan(), long[1:], api.OK}, {sample.Plan(), long, api.ErrMany},
		{api.Plan{}, "", api.ErrMany}, {sizeless, "", api.ErrRange}, {sizeless, long, api.ErrRange},
	}
	for _, c := range cases {
		s, n, e := log.Recover(c.p, c.text)
		if e != c.want || e != api.OK && (n != 0 || !reflect.DeepEqual(s, api.State{})) {
			t.Errorf("Recover of %d bytes by %v is %v %d %d, must be %d", len(c.text), c.p, s, n, e, c.want)
		}
	}
}

func TestP2WriteOnlyReads(t *testing.T) {
	l := []api.Line{line(1, 2, 3, 4), line(5, 6, 7, 8), line(9, 10, 11, 12)}
	log.Write(api.Act{Kind: 1, Lines: l[:2]})
	if !slices.Equal(l, []api.Line{line(1, 2, 3, 4), line(5, 6, 7, 8), line(9, 10, 11, 12)}) {
		t.Errorf("the lines that were handed in are %v now", l)
	}
}

// Each list of lines is written over in its turn, with its spare room; no other one may change.
func TestP2LinesOfActsAreNewMemory(t *testing.T) {
	text, _ := written(t, some())
	for i := range some() {
		l, _, _ := log.Replay(text)
		lines := l[i].Lines[:cap(l[i].Lines)]
		for j := range lines {
			lines[j] = api.Line{Good: -1, Want: -1, Got: -1, Back: -1}
		}
		l[i] = some()[i]
		if again, _, _ := log.Replay(text); !equal(l, some()) || !equal(again, some()) {
			t.Errorf("the lines of act %d are written over: the acts are %v", i, l)
		}
	}
}
