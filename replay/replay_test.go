package replay

import (
	"math"
	"math/rand"
	"slices"
	"strings"
	"testing"

	"dactyl/api"
	"dactyl/editor"
	"dactyl/event"
	"dactyl/port"
	"dactyl/tape"
	"dactyl/vfs"
)

const conf = "conf 12 3 60 20 3 20 5 30 emacs .$\\20\n"

const hello = "hello .\\1B[?2004h\\1B[2J\\1B[1;1H$\\20\\1B[1;3H\n"

// P37.2
func TestRun(t *testing.T) {
	for s, want := range map[string]string{
		conf:                                   hello,
		conf + "bytes .x\\0D\n":                hello + "told 0 . 1\naccept\t1\t0x\n",
		conf + "bytes .x\ntick\n":              hello + "told 0 .\\1B[1;3Hx\\1B[1;4H 0\ntold 0 . 0\n",
		conf + "bytes .\\06\\06\nresize 0 1\n": hello + "told 0 .\\07\\07 2\nbell\nbell\ntold 3 . 0\n",
		conf + "crash 1 .\nbytes .x\\0D\nsave\nsave\npower\n": hello + "told 0 . 1\naccept\t1\t0x\ntold 9 . 0\ntold 9 . 0\ntold 0 . 0\n",
		conf + "bytes .a\\1B[200~\\0D\\1B[201~\\0D\\0D\n":     hello + "told 0 . 1\naccept\t2\t0a\t2\\u00000D\n",
		conf + "load .\\1B\nbytes .\\10\nbytes .\\03\n":       hello + "told 0 . 0\ntold 0 .\\1B[1;3H\\1B[0;7;4m^[\\1B[0m\\1B[1;5H 0\ntold 0 .\\1B[1;3H\\1B[K\\1B[1;3H 1\ncancel\t1\t3\\u00001B\n",
		"conf 3 1 60 20 3 20 5 30 vi .\nbytes .\\1B\ntick\n":  "hello .\\1B[?2004h\\1B[2J\\1B[1;1H\ntold 0 . 0\ntold 0 .\\1B[1;1H]\\20\\1B[1;3H 0\n",
	} {
		got, e := Run(s)
		if e != api.OK || got != want {
			t.Errorf("Run(%q) = %d\n%s\nnot\n%s", s, e, got, want)
		}
	}
}

// P37.1, P37.2
func TestErrors(t *testing.T) {
	for s, want := range map[string]api.Errno{"": api.ErrForm, "x": api.ErrForm, "x\n": api.ErrLine, "conf 0 3 60 20 3 20 5 30 emacs .\n": api.ErrRange, "conf 12 3 0 20 3 20 5 30 emacs .\n": api.ErrRange, conf + "x\n": api.ErrLine} {
		log, e := Run(s)
		lines, f := Lines(s)
		if log != "" || e != want || lines != nil || f != want {
			t.Errorf("%q: %d, %d", s, e, f)
		}
	}
	if first, told, e := Play(api.Script{}); first != "" || told != nil || e != api.ErrRange {
		t.Error("Play", e)
	}
}

// P37.1
func TestPlay(t *testing.T) {
	s, _ := tape.Parse(conf + "crash 0 .\nbytes .ab\\0D\nsave\nresize 3 1\n")
	first, told, e := Play(s)
	ed, want, _ := editor.New(s.Conf, vfs.New(s.Crashes...))
	if e != api.OK || first != want || len(told) != 3 {
		t.Fatal(e)
	}
	for i, x := range s.Steps {
		if did := ed.Do(x); did.Out != told[i].Out || did.E != told[i].E || !event.Same(did.Events, told[i].Events) {
			t.Errorf("step %d: %v, not %v", i, told[i], did)
		}
	}
	if told[1].E != api.ErrDown {
		t.Error("the crash", told[1].E)
	}
}

// P37.2
func TestLines(t *testing.T) {
	lines, e := Lines(conf + "bytes .a\\0Db\\C3\\0A\\0D\nbytes .c\\03\\11\\1B\\0D\n")
	if e != api.OK || !slices.Equal(lines, []string{"a", "b\xC3", "", "\x1b"}) {
		t.Errorf("%q, %d", lines, e)
	}
	if lines, e := Lines(conf); len(lines) != 0 || e != api.OK {
		t.Error("of no steps")
	}
}

func cuts(s api.Script) string {
	var l []string
	for _, x := range s.Steps {
		if x.Kind == api.SBytes {
			l = append(l, x.Text)
		} else {
			l = append(l, "*")
		}
	}
	return strings.Join(l, "|")
}

// P37.3
func TestCut(t *testing.T) {
	s := api.Script{Conf: api.Conf{W: 7}, Crashes: []api.Crash{{At: 1, Keep: []byte{5}}}, Steps: []api.Step{{Text: "abcde"}, {Kind: api.STick}, {}, {Text: "fgh"}, {Kind: api.SLoad, N: 1, Text: "xyz"}, {Text: "i"}}}
	for _, c := range []struct {
		sizes []int
		want  string
	}{
		{nil, "abcde|*||fgh|*|i"}, {[]int{2}, "ab|cd|e|*||fg|h|*|i"}, {[]int{1, 3}, "a|bcd|e|*||fgh|*|i"}, {[]int{0, -7, math.MinInt}, "a|b|c|d|e|*||f|g|h|*|i"}, {[]int{math.MaxInt}, "abcde|*||fgh|*|i"}, {[]int{4, 2, 1}, "abcd|e|*||f|gh|*|i"}, {[]int{5, 1}, "abcde|*||f|gh|*|i"},
	} {
		got := Cut(s, c.sizes...)
		if cuts(got) != c.want || got.Conf != s.Conf || len(got.Crashes) != 1 || got.Crashes[0].Keep[0] != 5 {
			t.Errorf("%v: %s, not %s", c.sizes, cuts(got), c.want)
		}
		got.Crashes[0].Keep[0] = 9
		got.Steps[0].Text = "?"
		if s.Crashes[0].Keep[0] != 5 || s.Steps[0].Text != "abcde" {
			t.Fatal("what was handed in is another")
		}
	}
	if load := Cut(s, 1).Steps[10]; load.Kind != api.SLoad || load.N != 1 || load.Text != "xyz" {
		t.Errorf("a step that is no SBytes: %v", load)
	}
}

func someScript(r *rand.Rand) api.Script {
	parts := []string{"a", "b", "é", "日", "\x1b[200~x\ry\x1b[201~", "\x1b[200~", "\x1b[201~", "\r", "\n", "\x1b", "\x1b[A", "\x1b[D", "\x12", "\x11", "\t", "\x0b", "\x19", "\x0c", "\x7f", "\xE6", "\x1f", "\x1b1", "k", "/"}
	s, _ := tape.Parse(conf)
	s.Conf.Vi = r.Intn(2) == 0
	s.Crashes = []api.Crash{{At: 2, Keep: []byte{3}}}
	for range 12 {
		var b strings.Builder
		for range r.Intn(9) {
			b.WriteString(parts[r.Intn(len(parts))])
		}
		x := api.Step{Text: b.String()}
		switch r.Intn(8) {
		case 0:
			x = api.Step{Kind: api.STick}
		case 1:
			x = api.Step{Kind: api.SResize, N: r.Intn(14), M: r.Intn(5)}
		case 2:
			x = api.Step{Kind: api.SOffer, L: []string{"ab", "a\r", "b日", "ba"}[r.Intn(4):]}
		case 3:
			x = api.Step{Kind: api.SLoad, N: 1, Text: "a\\u00000D\n\xFF\n"}
		case 4:
			x = api.Step{Kind: api.SSave + r.Intn(2)}
		}
		s.Steps = append(s.Steps, x)
	}
	return s
}

// P37.4
func TestTheSame(t *testing.T) {
	r := rand.New(rand.NewSource(41))
	for range 200 {
		text, e := tape.Text(someScript(r))
		if e != api.OK {
			t.Fatal(e)
		}
		a, e := Run(text)
		b, f := Run(text)
		if a != b || e != api.OK || f != api.OK {
			t.Fatalf("%q tells another log", text)
		}
	}
}

// last tells what happened, all steps together, and the last screen.
func last(t *testing.T, s api.Script) ([]api.Event, api.Screen) {
	t.Helper()
	e, _, err := editor.New(s.Conf, vfs.New(s.Crashes...))
	if err != api.OK {
		t.Fatal(err)
	}
	var l []api.Event
	for _, x := range s.Steps {
		l = append(l, e.Do(x).Events...)
	}
	return l, e.Screen()
}

// P37.5, and W6
func TestChunks(t *testing.T) {
	r := rand.New(rand.NewSource(42))
	for range 500 {
		s := someScript(r)
		a, x := last(t, s)
		b, y := last(t, Cut(s, 1+r.Intn(3), 1+r.Intn(5)))
		if !event.Same(a, b) || !port.Same(x, y) {
			text, _ := tape.Text(s)
			t.Fatalf("%s: %v, %v", text, a, b)
		}
	}
}
