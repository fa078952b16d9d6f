package desk_test

import (
	"strconv"
	"strings"
	"testing"

	"weighhouse/api"
	"weighhouse/desk"
	"weighhouse/sample"
)

// talk is lines that are asked, and what each of them gives, with " > " between.
type talk []string

// ask plays a talk by the sample's plan.
func ask(t *testing.T, name string, l talk) {
	t.Helper()
	askBy(t, sample.Plan(), name, l)
}

func askBy(t *testing.T, p api.Plan, name string, l talk) {
	t.Helper()
	var script, want []string
	for _, x := range l {
		asked, given, _ := strings.Cut(x, " > ")
		script, want = append(script, asked+"\n"), append(want, given)
	}
	s, e := desk.Play(p, strings.Join(script, ""))
	got := strings.Split(s, "\n")
	if e != api.OK || len(got) != len(want)+1 || got[len(want)] != "" {
		t.Fatalf("%s: Play is %q %d", name, s, e)
	}
	for i, given := range want {
		if got[i] != given {
			t.Errorf("%s: line %d, %q, gives %q, must be %q", name, i, script[i], got[i], given)
		}
	}
}

// failed is what a line with an error gives.
func failed(e api.Errno) string { return "error " + strconv.Itoa(int(e)) }

// After a pick, a fill and a move five lie in front.
func TestM1ADay(t *testing.T) {
	ask(t, "a day", talk{
		"open > 0", "holds > ", "moves > ", "shelf 0 > 0 0", "order 0 > error 4",
		"receive 0 0 9 > ok", "receive 1 0 3 > ok", "receive 2 1 6 > ok",
		"enter 0 7 1 2 > ok", "order 0 > 0 7 0 0 2 0 0", "holds > ", "open > 1",
		"release > ok", "order 0 > 1 7 0 0 2 0 0", "holds > 0 0 0 4 0 0 1 3 0 1 2 2",
		"pick 0 0 1 3 > ok", "order 0 > 1 7 3 0 2 0 0", "shelf 1 > 0 0",
		"fill > ok", "moves > 0 0 1 5 1 2 1 4", "moved 0 5 > ok", "moves > 1 2 1 4", "shelf 1 > 5 0", "shelf 0 > 4 0",
		"count 0 0 1 > ok", "shelf 0 > 1 0", "holds > 0 0 0 1 0 0 1 3 0 1 2 2",
		"moved 0 0 > ok", "moves > ", "enter 1 9 > ok", "open > 2", "release > ok", "order 1 > 1 9 0 5",
		"cancel 1 > ok", "order 1 > 2 9 0 9", "open > 1",
		"pick 0 0 0 1 > ok", "pick 0 0 1 3 > ok", "pick 0 1 2 2 > ok", "order 0 > 2 7 7 0 2 2 0", "holds > ", "open > 0",
	})
}

// Each act's numbers are told apart by bins, goods, orders, lines and moves of which there are several.
func TestM1NumbersOfActs(t *testing.T) {
	ask(t, "acts", talk{
		"receive 2 1 3 > ok", "receive 0 1 4 > ok", "receive 0 0 9 > ok",
		"shelf 0 > 9 4", "shelf 1 > 0 0", "shelf 2 > 0 3",
		"enter 0 1 > ok", "enter 1 2 0 4 1 3 > ok", "release > ok", "holds > 0 0 0 1 1 0 0 2 1 1 0 4 1 2 0 2 1 2 2 1",
		"pick 1 2 0 1 > ok", "order 1 > 1 2 0 0 4 0 0 3 1 0", "holds > 0 0 0 1 1 0 0 2 1 1 0 4 1 2 2 2",
		"fill > ok", "moves > 0 0 1 4 1 0 1 1 1 2 1 1",
		"moved 1 0 > ok", "moves > 0 0 1 4 1 2 1 1", "moved 1 1 > ok", "shelf 1 > 0 1", "shelf 2 > 0 2", "moves > 0 0 1 4",
		"count 2 1 0 > ok", "shelf 2 > 0 0", "holds > 0 0 0 1 1 0 0 2 1 1 0 4 1 2 0 1 1 2 1 1",
		"cancel 0 > ok", "order 0 > 2 1 0 1", "order 1 > 1 2 0 0 4 0 0 3 1 0", "open > 1",
	})
}

func TestM1EachLineIsOneOrNone(t *testing.T) {
	right := []string{"receive 0 0 1", "enter 0 1", "enter 0 1 1 2", "enter 0 1 1 2 0 200", "release", "fill", "count 0 0 0", "shelf 0", "holds", "moves", "open"}
	for _, line := range right {
		s, e := desk.Play(sample.Plan(), line+"\n")
		if e != api.OK || strings.HasPrefix(s, "error") || strings.Count(s, "\n") != 1 {
			t.Errorf("%q gives %q %d", line, s, e)
		}
	}
	wrong := []string{
		"", " ", "x", "0", "ok", "error", "error 1", "Open", "OPEN", "ope", "opens", "open\r", "\topen", "open\t", "open\x00", "\x00", "\xff", "\xff\xfe 0",
		" open", "open ", "open  ", "open 0", "open x", "release 0", "release ", "fill 0", "fill ", "holds 0", "moves 0", "holds ", "moves ",
		"receive", "receive 0", "receive 0 0", "receive 0 0 1 1", "receive 0 0 1 ", "receive  0 0 1", "receive 0  0 1", " receive 0 0 1", "receive\t0 0 1", "receive 0 0 x", "receive x 0 1", "receive 0 x 1", "receive,0,0,1",
		"cancel", "cancel 0 0", "cancel x", "cancel ", "pick", "pick 0 0 0", "pick 0 0 0 0 0", "pick 0 0 0 x", "moved", "moved 0", "moved 0 0 0", "moved 0 -1",
		"count", "count 0 0", "count 0 0 0 0", "count 0 0 -0", "shelf", "shelf 0 0", "shelf x", "shelf ", "order", "order 0 0", "order x", "order ",
		"enter", "enter ", "enter 0", "enter 0 1 0", "enter 0 1 0 1 0", "enter 0 1 0 1 0 1 0", "enter 0 1 0 1 0 1 0 1", "enter 0 1 0 1 0 1 0 1 0 1", "enter x 1", "enter 0 x", "enter  0 1", "enter 0 1 ",
		"receive 0 0 1 receive 0 0 1", "open open", "act 0", "begin", "take 0 0 0 0", "totals", "avail 0 0", "free 0", "sum 0",
	}
	for _, line := range wrong {
		if s, e := desk.Play(sample.Plan(), line+"\n"); s != failed(api.ErrForm)+"\n" || e != api.OK {
			t.Errorf("%q gives %q %d, must be %q", line, s, e, failed(api.ErrForm))
		}
	}
}

func TestM1Numbers(t *testing.T) {
	right := map[string]string{"0": "0 0", "2": "0 0", "3": failed(api.ErrNone), "9": failed(api.ErrNone), "10": failed(api.ErrNone), "100000": failed(api.ErrNone), "999999": failed(api.ErrNone)}
	for word, want := range right {
		if s, e := desk.Play(sample.Plan(), "shelf "+word+"\n"); s != want+"\n" || e != api.OK {
			t.Errorf("%q gives %q %d, must be %q", word, s, e, want)
		}
	}
	wrong := []string{
		"", "00", "01", "000001", "010", "0000000", "+0", "+1", "-0", "-1", "-999999", "1000000", "9999999", "1234567", "99999999999999999999999999", "-99999999999999999999999999",
		"18446744073709551616", "18446744073709551617", "4294967296", "1.0", "1e0", "0x1", "0b1", "0o1", "1_0", "1,0", "١", "１", "²", "1\x00", "\x001", "1\r", "1\t", "a", "1a", "a1", "/", ":", "0 ", " 0",
	}
	for _, word := range wrong {
		if s, e := desk.Play(sample.Plan(), "shelf "+word+"\n"); s != failed(api.ErrForm)+"\n" || e != api.OK {
			t.Errorf("%q gives %q %d, must be %q", word, s, e, failed(api.ErrForm))
		}
	}
}

// That a line is none of these is told ahead of what its numbers would tell.
func TestM1CallsOwnErrors(t *testing.T) {
	ask(t, "errors", talk{
		"receive 3 0 1 > error 3", "receive 0 2 1 > error 3", "receive 0 0 0 > error 3", "receive 0 0 201 > error 3", "receive 0 0 999999 > error 3", "receive 999999 999999 01 > error 1",
		"receive 0 0 51 > error 5", "receive 0 0 50 > ok", "receive 0 0 1 > error 5",
		"enter 2 1 > error 3", "enter 0 0 > error 3", "enter 0 201 > error 3", "enter 0 1 0 0 > error 3", "enter 0 1 0 1 0 201 > error 3",
		"cancel 0 > error 4", "pick 0 0 0 0 > error 4", "moved 0 0 > error 4", "count 3 0 0 > error 3", "count 0 2 0 > error 3", "count 0 0 201 > error 3",
		"shelf 3 > error 4", "shelf 999999 > error 4", "order 0 > error 4", "order 999999 > error 4", "shelf 3 x > error 1", "order 0 0 > error 1",
		"enter 0 9 > ok", "release > ok", "pick 0 0 0 10 > error 3", "pick 0 0 1 1 > error 4", "pick 0 1 0 1 > error 4", "fill > ok", "moved 0 9 > error 3",
		"moves > 0 0 1 8", "cancel 0 > ok", "cancel 0 > error 6", "cancel 1 > error 4", "order 1 > error 4", "order 0 > 2 9 0 9",
		"enter 0 1 > ok", "enter 0 1 > ok", "enter 0 1 > ok", "enter 0 1 > error 2", "enter 2 1 > error 2", "enter 0 1 0 > error 1", "enter 0 1 0 1 0 1 0 1 > error 1", "enter > error 1",
	})
	wide := api.Plan{Bins: []api.Bin{{Room: 1000}}, Sizes: []int{1}}
	askBy(t, wide, "as many as may lie there", talk{"receive 0 0 200 > ok", "receive 0 0 1 > error 2", "shelf 0 > 200"})
}

// shows ask for all that can be shown.
func shows() []string {
	return []string{"shelf 0", "shelf 1", "shelf 2", "order 0", "order 1", "holds", "moves", "open"}
}

func TestM1WithAnErrorNothingHasChanged(t *testing.T) {
	begin := []string{"receive 0 0 9", "receive 1 0 3", "receive 2 1 6", "enter 0 6 1 9", "release", "pick 0 0 1 1", "fill", "enter 0 4"}
	wrong := []string{
		"receive 0 0 51", "receive 0 0 0", "receive 0 0", "enter 0 1 0", "enter 0 1 2 1", "cancel 2", "cancel", "pick 0 0 0 9", "pick 0 1 0 1", "pick 0 0 0",
		"moved 0 9", "moved 9 0", "moved 0", "count 0 0 201", "count 0 0", "release 0", "fill 0", "shelf 9", "order 9", "x", "",
	}
	script := func(lines ...string) string { return strings.Join(lines, "\n") + "\n" }
	told := func(lines ...string) []string {
		s, e := desk.Play(sample.Plan(), script(append(append(append([]string{}, begin...), lines...), shows()...)...))
		if e != api.OK {
			t.Fatalf("Play is %q %d", s, e)
		}
		return strings.Split(s, "\n")
	}
	want := told()
	if strings.Contains(strings.Join(want, "\n"), "error") {
		t.Fatalf("it begins with %q", want)
	}
	for _, line := range wrong {
		got := told(line)
		if n := len(begin); !strings.HasPrefix(got[n], "error ") || strings.Join(got[n+1:], "\n") != strings.Join(want[n:], "\n") {
			t.Errorf("%q: it gives %q, must be %q", line, got, want)
		}
	}
}

func TestM1Limits(t *testing.T) {
	long := strings.Repeat("x", api.MaxBytes)
	cases := []struct {
		name, script string
		want         api.Errno
	}{
		{"nothing", "", api.OK},
		{"a line feed", "\n", api.OK},
		{"no line feed", "open", api.ErrForm},
		{"no line feed behind the last line", "open\nopen", api.ErrForm},
		{"a carriage return behind it", "open\n\r", api.ErrForm},
		{"a blank", " ", api.ErrForm},
		{"all bytes", long[1:] + "\n", api.OK},
		{"all bytes and no line feed", long, api.ErrForm},
		{"a byte more", long + "\n", api.ErrMany},
		{"a byte more and no line feed", long + "x", api.ErrMany},
		{"all lines", strings.Repeat("open\n", api.MaxActs), api.OK},
		{"all lines, empty", strings.Repeat("\n", api.MaxActs), api.OK},
		{"a line more", strings.Repeat("open\n", api.MaxActs+1), api.ErrMany},
		{"a line more, empty", strings.Repeat("\n", api.MaxActs+1), api.ErrMany},
		{"a line more and no line feed", strings.Repeat("open\n", api.MaxActs+1) + "open", api.ErrMany},
		{"all lines and no line feed", strings.Repeat("open\n", api.MaxActs) + "open", api.ErrForm},
	}
	for _, c := range cases {
		s, e := desk.Play(sample.Plan(), c.script)
		if e != c.want || e != api.OK && s != "" || e == api.OK && strings.Count(s, "\n") != strings.Count(c.script, "\n") {
			t.Errorf("%s: Play is %q %d, must be %d", c.name, s, e, c.want)
		}
	}
}

func TestM1PlansErrorsFirst(t *testing.T) {
	sizeless := sample.Plan()
	sizeless.Sizes[1] = 0
	for _, script := range []string{"", "open\n", "open", strings.Repeat("x", api.MaxBytes+1)} {
		if s, e := desk.Play(api.Plan{}, script); s != "" || e != api.ErrMany {
			t.Errorf("Play of nothing is %q %d", s, e)
		}
		if s, e := desk.Play(sizeless, script); s != "" || e != api.ErrRange {
			t.Errorf("Play of no sizes is %q %d", s, e)
		}
	}
}

func TestM2AllLines(t *testing.T) {
	cases := []struct{ script, want string }{
		{"", ""},
		{"holds\n", "\n"},
		{"moves\nholds\n\nmoves\n", "\n\nerror 1\n\n"},
		{"shelf 0\n", "0 0\n"},
		{"open\nx\nopen\n", "0\nerror 1\n0\n"},
		{"enter 1 200\nopen\norder 0\nrelease\norder 0\n", "ok\n1\n0 200 0 0\nok\n1 200 0 200\n"},
	}
	for _, c := range cases {
		if s, e := desk.Play(sample.Plan(), c.script); s != c.want || e != api.OK {
			t.Errorf("Play of %q is %q %d, must be %q", c.script, s, e, c.want)
		}
	}
}

// What a bin has of each good, for as few and as many as there may be.
func TestM2ShelfOfEachGood(t *testing.T) {
	one := api.Plan{Bins: []api.Bin{{Room: 9}}, Sizes: []int{1}}
	askBy(t, one, "one good", talk{"receive 0 0 9 > ok", "shelf 0 > 9", "shelf 1 > error 4"})
	all := api.Plan{Bins: make([]api.Bin, api.MaxBins), Sizes: []int{1, 1, 1}}
	all.Bins[5].Room = 1000
	askBy(t, all, "three goods", talk{"receive 5 0 1 > ok", "receive 5 2 200 > ok", "shelf 5 > 1 0 200", "shelf 0 > 0 0 0", "shelf 6 > error 4"})
}

func TestP3EachScriptBegins(t *testing.T) {
	script := "receive 0 0 9\nenter 0 3\nrelease\nholds\nopen\n"
	first, _ := desk.Play(sample.Plan(), script)
	for range 3 {
		if again, e := desk.Play(sample.Plan(), script); again != first || e != api.OK {
			t.Errorf("Play is %q, and then %q %d", first, again, e)
		}
	}
}
