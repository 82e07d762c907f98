package tape

import (
	"math"
	"math/rand"
	"strings"
	"testing"

	"dactyl/api"
)

// P34.1
func TestWord(t *testing.T) {
	for s, want := range map[string]string{"": ".", "a\x1b": `.a\1B`, " ": `.\20`, "\\": `.\5C`, "~!.": ".~!.", "\x7f\xff\x00\n": `.\7F\FF\00\0A`, "é": `.\C3\A9`} {
		if Word(s) != want {
			t.Errorf("%q: %s", s, Word(s))
		}
		if back, e := Unword(want); back != s || e != api.OK {
			t.Errorf("%s: %q, %d", want, back, e)
		}
	}
	for _, w := range []string{"", "a", `\1B`, `.\`, `.\1`, `.\1b`, `.\61`, `.\7E`, ". ", ".\x1b", ".é", `.\G0`, `.\\`, `.a\5`, `.\5c`, ".\n", `.\-1`} {
		if s, e := Unword(w); s != "" || e != api.ErrForm {
			t.Errorf("%q: %q, %d", w, s, e)
		}
	}
	var all []byte
	for b := range 256 {
		all = append(all, byte(b))
	}
	if back, e := Unword(Word(string(all))); back != string(all) || e != api.OK {
		t.Error("all bytes")
	}
}

func steps() map[string]api.Step {
	return map[string]api.Step{
		`bytes .a\1B`: {Text: "a\x1b"}, "bytes .": {}, "tick": {Kind: api.STick}, "resize 3 -4": {Kind: api.SResize, N: 3, M: -4}, "resize 0 0": {Kind: api.SResize}, "resize -9223372036854775808 9223372036854775807": {Kind: api.SResize, N: math.MinInt, M: math.MaxInt},
		"offer": {Kind: api.SOffer}, "offer .": {Kind: api.SOffer, L: []string{""}}, `offer .a .b\20c`: {Kind: api.SOffer, L: []string{"a", "b c"}}, "load": {Kind: api.SLoad}, "load .": {Kind: api.SLoad, N: 1}, `load .a\0A`: {Kind: api.SLoad, N: 1, Text: "a\n"}, "save": {Kind: api.SSave}, "power": {Kind: api.SPower},
	}
}

// P34.2
func TestStep(t *testing.T) {
	for want, x := range steps() {
		if s, e := Step(x); s != want || e != api.OK {
			t.Errorf("%v: %q, %d", x, s, e)
		}
	}
	if s, e := Step(api.Step{Kind: api.SPower, L: []string{}}); s != "power" || e != api.OK {
		t.Error("a list without an element may be empty")
	}
	for _, x := range []api.Step{{Kind: -1}, {Kind: 7}, {Kind: math.MaxInt}, {N: 1}, {M: 1}, {L: []string{""}}, {Kind: api.STick, Text: "a"}, {Kind: api.STick, N: 1}, {Kind: api.SResize, Text: "a"}, {Kind: api.SResize, L: []string{"a"}}, {Kind: api.SOffer, Text: "a"}, {Kind: api.SOffer, N: 1}, {Kind: api.SLoad, N: 2}, {Kind: api.SLoad, N: -1}, {Kind: api.SLoad, Text: "a"}, {Kind: api.SLoad, N: 1, M: 1}, {Kind: api.SLoad, N: 1, L: []string{"a"}}, {Kind: api.SSave, M: 1}, {Kind: api.SPower, Text: "x"}} {
		if s, e := Step(x); s != "" || e != api.ErrArg {
			t.Errorf("%v: %q, %d", x, s, e)
		}
		if s, e := Text(api.Script{Steps: []api.Step{{}, x}}); s != "" || e != api.ErrArg {
			t.Errorf("a script of %v: %q, %d", x, s, e)
		}
	}
}

func script() api.Script {
	return api.Script{
		Conf:    api.Conf{W: 80, H: 24, Buf: 100, Paste: 50, Kill: 3, Undo: 4, Hist: 5, Entry: 6, Vi: true, Prompt: "$ "},
		Crashes: []api.Crash{{At: 3, Keep: []byte{255, 0}}, {At: -1}},
		Steps:   []api.Step{{Text: "a\r"}, {Kind: api.STick}, {Kind: api.SOffer, L: []string{"x"}}},
	}
}

// P34.2
func TestText(t *testing.T) {
	want := "conf 80 24 100 50 3 4 5 6 vi .$\\20\ncrash 3 .\\FF\\00\ncrash -1 .\nbytes .a\\0D\ntick\noffer .x\n"
	if s, e := Text(script()); s != want || e != api.OK {
		t.Errorf("%q, %d", s, e)
	}
	if s, e := Text(api.Script{}); s != "conf 0 0 0 0 0 0 0 0 emacs .\n" || e != api.OK {
		t.Errorf("%q, %d", s, e)
	}
}

// P34.2
func TestSame(t *testing.T) {
	if !Same(script(), script()) || !Same(api.Script{}, api.Script{Crashes: []api.Crash{}, Steps: []api.Step{}}) || !Same(api.Script{Crashes: []api.Crash{{}}}, api.Script{Crashes: []api.Crash{{Keep: []byte{}}}}) {
		t.Error("the same")
	}
	for i, spoil := range []func(s *api.Script){
		func(s *api.Script) { s.Conf.W++ }, func(s *api.Script) { s.Conf.Vi = false }, func(s *api.Script) { s.Conf.Prompt = "" }, func(s *api.Script) { s.Conf.Entry = 0 }, func(s *api.Script) { s.Crashes = nil }, func(s *api.Script) { s.Crashes[0].At = 4 }, func(s *api.Script) { s.Crashes[0].Keep[1] = 1 }, func(s *api.Script) { s.Steps = s.Steps[:2] },
		func(s *api.Script) { s.Steps[0].Text = "b" }, func(s *api.Script) { s.Steps[1].Kind = 5 }, func(s *api.Script) { s.Steps[1].N = 5 }, func(s *api.Script) { s.Steps[1].M = 5 }, func(s *api.Script) { s.Steps[2].L = nil }, func(s *api.Script) { s.Steps[2].L[0] = "y" },
	} {
		s := script()
		spoil(&s)
		if Same(s, script()) || Same(script(), s) {
			t.Errorf("%d: the same", i)
		}
	}
}

// P34.3
func TestParseRefuses(t *testing.T) {
	conf := "conf 1 2 3 4 5 6 7 8 emacs .\n"
	for s, want := range map[string]api.Errno{
		"": api.ErrForm, "conf": api.ErrForm, strings.TrimSuffix(conf, "\n"): api.ErrForm, conf + "tick": api.ErrForm, "x\ny": api.ErrForm, "\n": api.ErrLine, "tick\n": api.ErrLine, "crash 1 .\n": api.ErrLine, conf + conf: api.ErrLine, conf + "\n": api.ErrLine, conf + "tick\ncrash 1 .\n": api.ErrLine, conf + "tick\n\n": api.ErrLine,
		"conf 1 2 3 4 5 6 7 emacs .\n": api.ErrLine, "conf 1 2 3 4 5 6 7 8 9 emacs .\n": api.ErrLine, "conf 1 2 3 4 5 6 7 8 Emacs .\n": api.ErrLine, "conf 1 2 3 4 5 6 7 8 emacs\n": api.ErrLine, "conf 1 2 3 4 5 6 7 8 emacs . .\n": api.ErrLine, "conf 1 2 3 4 5 6 7 8  emacs .\n": api.ErrLine, "conf 01 2 3 4 5 6 7 8 emacs .\n": api.ErrLine, " conf 1 2 3 4 5 6 7 8 emacs .\n": api.ErrLine, "conf 1 2 3 4 5 6 7 8 emacs . \n": api.ErrLine, "conf 1 2 3 4 5 6 7 8 vi x\n": api.ErrLine, "conf 1 2 3 4 5 6 7 +8 vi .\n": api.ErrLine, "conf 1 2 3 4 5 6 7 8 emacs .\r\n": api.ErrLine,
		conf + "crash 1\n": api.ErrLine, conf + "crash .\n": api.ErrLine, conf + "crash 1 . .\n": api.ErrLine, conf + "crash 1 x\n": api.ErrLine, conf + "crash 1 .\\ff\n": api.ErrLine, conf + "bytes\n": api.ErrLine, conf + "bytes a\n": api.ErrLine, conf + "bytes .a .b\n": api.ErrLine, conf + "tick .\n": api.ErrLine, conf + "tick \n": api.ErrLine, conf + " tick\n": api.ErrLine, conf + "resize 1\n": api.ErrLine, conf + "resize 1 2 3\n": api.ErrLine, conf + "resize 1 x\n": api.ErrLine, conf + "resize 1 -0\n": api.ErrLine,
		conf + "offer x\n": api.ErrLine, conf + "offer .a  .b\n": api.ErrLine, conf + "offer \n": api.ErrLine, conf + "load x\n": api.ErrLine, conf + "load . .\n": api.ErrLine, conf + "load \n": api.ErrLine, conf + "save .\n": api.ErrLine, conf + "power 1\n": api.ErrLine, conf + "Power\n": api.ErrLine, conf + "# x\n": api.ErrLine,
	} {
		if got, e := Parse(s); e != want || !Same(got, api.Script{}) || got.Steps != nil {
			t.Errorf("Parse(%q): %d", s, e)
		}
	}
}

// P34.3, P34.4
func TestBack(t *testing.T) {
	s, _ := Text(script())
	if back, e := Parse(s); e != api.OK || !Same(back, script()) {
		t.Errorf("%v, %d", back, e)
	}
	for line, x := range steps() {
		text := "conf 0 0 0 0 0 0 0 0 emacs .\n" + line + "\n"
		back, e := Parse(text)
		if e != api.OK || !Same(back, api.Script{Steps: []api.Step{x}}) {
			t.Errorf("%q: %v, %d", line, back, e)
		}
		if again, _ := Text(back); again != text {
			t.Errorf("%q came back as %q", text, again)
		}
	}
	r := rand.New(rand.NewSource(37))
	parts := []string{"conf 0 0 0 0 0 0 0 0 emacs .\n", "conf 1 -1 0 0 0 0 0 0 vi .\\20x\n", "crash 1 .\n", "crash ", "1", " ", ".", "\n", "bytes .a\n", "tick\n", "load", "offer", "\\1B", "save\n", "resize 1 2\n", "power"}
	good := 0
	for range 100000 {
		var b strings.Builder
		b.WriteString(parts[r.Intn(2)])
		for range r.Intn(6) {
			b.WriteString(parts[r.Intn(len(parts))])
		}
		if back, e := Parse(b.String()); e == api.OK {
			good++
			if again, f := Text(back); again != b.String() || f != api.OK {
				t.Fatalf("%q came back as %q", b.String(), again)
			}
		}
	}
	if good < 1000 {
		t.Error("too few were scripts")
	}
}
