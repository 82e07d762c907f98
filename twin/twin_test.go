package twin

import (
	"math"
	"math/rand"
	"slices"
	"strings"
	"testing"

	"dactyl/api"
	"dactyl/editor"
	"dactyl/emit"
	"dactyl/event"
	"dactyl/sign"
	"dactyl/tape"
	"dactyl/vfs"
)

func conf(prompt string) api.Conf {
	return api.Conf{W: 12, H: 3, Buf: 60, Paste: 20, Kill: 3, Undo: 20, Hist: 5, Entry: 30, Prompt: prompt}
}

func script(prompt string, steps ...api.Step) api.Script {
	return api.Script{Conf: conf(prompt), Steps: steps}
}

func bytes(s string) api.Step { return api.Step{Kind: api.SBytes, Text: s} }
func paste(s string) api.Step { return bytes("\x1b[200~" + s + "\x1b[201~") }

var tick = api.Step{Kind: api.STick}

// P36.1
func TestMay(t *testing.T) {
	for _, c := range []struct {
		v, w int
		want bool
	}{
		{0x202E, 0x2066, true}, {7, 10, false}, {7, 8, true}, {0, 31, true}, {9, 8, false}, {13, 8, false}, {27, 8, false}, {7, 7, false}, {'a', 'b', false}, {127, 7, false}, {0xE9, 0xEA, true}, {0x80, 0x85, true}, {0x4E00, 0x4E01, true}, {0x4E00, 0x20000, false}, {0x430, 0x410, true}, {0x430, 0x2010, false}, {0x430, 'a', false}, {0xE9, 0x430, false}, {0xE9, 0x800, false},
		{api.Stray + 200, api.Stray + 201, false}, {-1, 0xD800, false}, {0xD800, 0xD801, false}, {0xE000, 0xE001, true}, {0x10FFFF, 0x10FFFE, true}, {0, 1, true}, {math.MaxInt, math.MinInt, false}, {0xAD, 0x200B, false}, {0x200B, 0x200C, true}, {0x300, 0x301, true}, {0xA0, 0x2000, false},
	} {
		if May(c.v, c.w) != c.want || May(c.w, c.v) != c.want {
			t.Errorf("May(%X, %X)", c.v, c.w)
		}
	}
}

// P36.1
func TestSigns(t *testing.T) {
	l := sign.Of(2, "aéa")
	if got := Signs(l, 'a', 'b'); !sign.Same(got, sign.Of(2, "béb")) || !sign.Same(l, sign.Of(2, "aéa")) {
		t.Errorf("%v", got)
	}
	if len(Signs(nil, 1, 2)) != 0 {
		t.Error("of none")
	}
}

// P36.1, P36.2
func TestCheck(t *testing.T) {
	crashes := script("")
	crashes.Crashes = []api.Crash{{At: 99}}
	narrow := script("")
	narrow.Conf.Paste = 0
	v, w := 0xE9, 0xEA // é, ê
	for name, c := range map[string]struct {
		s    api.Script
		v, w int
		want api.Errno
	}{
		"none": {script(""), v, w, api.OK}, "no twins": {narrow, v, 'a', api.ErrArg}, "paste": {narrow, v, w, api.ErrRange}, "crashes": {crashes, v, w, api.ErrForm}, "typed v": {script("", bytes("é")), v, w, api.ErrForm}, "typed w": {script("", bytes("aê")), v, w, api.ErrForm}, "typed in two steps": {script("", bytes("\xC3"), bytes("\xA9")), v, w, api.ErrForm}, "two stray bytes": {script("", bytes("\xC3"), tick, bytes("\xA9"), tick), v, w, api.OK},
		"control": {script("", bytes("\x01")), 1, 2, api.ErrForm}, "meta": {script("", bytes("\x1b\x01")), 2, 1, api.ErrForm}, "other control": {script("", bytes("\x03")), 1, 2, api.OK}, "cut": {script("", paste(strings.Repeat("x", 21))), v, w, api.ErrForm}, "not cut": {script("", paste(strings.Repeat("x", 20))), v, w, api.OK}, "open": {script("", bytes("\x1b[200~x")), v, w, api.ErrForm}, "pasted v": {script("", paste("é")), v, w, api.OK}, "pasted w": {script("", paste("ê")), v, w, api.ErrForm},
		"prompt w": {script("ê"), v, w, api.ErrForm}, "prompt v": {script("é"), v, w, api.OK}, "offered w": {script("", api.Step{Kind: api.SOffer, L: []string{"a", "ê"}}), v, w, api.ErrForm}, "offered v": {script("", api.Step{Kind: api.SOffer, L: []string{"é"}}), v, w, api.OK}, "loaded w": {script("", api.Step{Kind: api.SLoad, N: 1, Text: "ê"}), v, w, api.ErrForm}, "loaded w by digits": {script("", api.Step{Kind: api.SLoad, N: 1, Text: `\u0000EA`}), v, w, api.ErrForm}, "a backslash, and digits": {script("", api.Step{Kind: api.SLoad, N: 1, Text: `\\u0000EA`}), v, w, api.OK}, "a backslash, and w": {script("", api.Step{Kind: api.SLoad, N: 1, Text: `\\\u0000EA`}), v, w, api.ErrForm},
		"digits without a backslash": {script("", api.Step{Kind: api.SLoad, N: 1, Text: "ab0000EA"}), v, w, api.OK}, "no digits": {script("", api.Step{Kind: api.SLoad, N: 1, Text: `\u00000g`}), 1, 0, api.OK}, "pasted over steps": {script("", bytes("\x1b[200~\xC3"), tick, bytes("\xAA\x1b[2"), tick, bytes("01~")), v, w, api.ErrForm}, "no text of a step that has none": {script("", api.Step{Kind: api.SSave, Text: "ê"}), v, w, api.OK},
	} {
		got, e := Turn(c.s, c.v, c.w)
		if f := Check(c.s, c.v, c.w); f != c.want || e != c.want || e != api.OK && got.Steps != nil {
			t.Errorf("%s: %d, %d", name, f, e)
		}
	}
}

// P36.2
func TestTurn(t *testing.T) {
	s := script("é$", bytes("a\x1b[200~\xC3"), tick, bytes("\xA9\xC3x\x1b[20"), tick, bytes("1~b"), api.Step{Kind: api.SOffer, L: []string{"é", "e"}}, api.Step{Kind: api.SLoad, N: 1, Text: "é\\u0000E9\n\\\\u0000E9\\\\é\\u0000e9"}, api.Step{Kind: api.SResize, N: 3, M: 4}, paste("éé"))
	want := script("ê$", bytes("a\x1b[200~\xC3"), tick, bytes("\xAA\xC3x\x1b[20"), tick, bytes("1~b"), api.Step{Kind: api.SOffer, L: []string{"ê", "e"}}, api.Step{Kind: api.SLoad, N: 1, Text: "ê\\u0000EA\n\\\\u0000E9\\\\ê\\u0000e9"}, api.Step{Kind: api.SResize, N: 3, M: 4}, paste("êê"))
	kept, _ := tape.Text(s)
	got, e := Turn(s, 0xE9, 0xEA)
	if e != api.OK || !tape.Same(got, want) {
		a, _ := tape.Text(got)
		b, _ := tape.Text(want)
		t.Errorf("%d: %s, not %s", e, a, b)
	}
	if again, _ := tape.Text(s); again != kept {
		t.Error("what was handed in is another")
	}
}

// turned tells events of turned signs.
func turned(l []api.Event, v, w int) []api.Event {
	other := slices.Clone(l)
	for i := range other {
		other[i].S = Signs(other[i].S, v, w)
	}
	return other
}

// P36.3, and W1: what strange values say changes no control, nor its place.
func TestBlind(t *testing.T) {
	r := rand.New(rand.NewSource(40))
	twins := [][2]int{{0xE9, 0xEA}, {0x202E, 0x2066}, {0x4E00, 0x4E01}, {1, 2}, {0x430, 0x440}, {0x300, 0x301}, {0x200B, 0x200C}, {0x85, 0x9B}, {0xE000, 0xE001}}
	tried := 0
	for i := range 2500 {
		v, w := twins[i%len(twins)][0], twins[i%len(twins)][1]
		word := string(rune(v))
		texts := []string{word, "a" + word, word + word + "b", " a b", word + "\xC3", "x\r" + word}
		some := func() string { return texts[r.Intn(len(texts))] }
		typed := []string{"a", "b", " ", "\r", "\x1b[A", "\x1b[B", "\x1b[D", "\x12", "\x19", "\x0b", "\x1f", "\x14", "\x1bu", "\x1bb", "\x7f", "\t", "\x0c", "\x1bt", "\x11", "\x1b1"}
		f := conf(some())
		f.Vi, f.W, f.H = i%3 == 0, 1+r.Intn(14), 1+r.Intn(4)
		s := api.Script{Conf: f}
		for range 20 {
			x := bytes(typed[r.Intn(len(typed))])
			switch r.Intn(8) {
			case 0, 1, 2:
				x = paste(some())
			case 3:
				x = api.Step{Kind: api.SOffer, L: []string{"a" + some(), "b" + some(), some(), some()}}
			case 4:
				x = api.Step{Kind: api.SLoad, N: 1, Text: some() + "\n" + some() + "\n\\u0000E9a"}
			case 5:
				x = []api.Step{tick, {Kind: api.SSave}, {Kind: api.SLoad}, {Kind: api.SResize, N: r.Intn(15), M: r.Intn(5)}}[r.Intn(4)]
			}
			s.Steps = append(s.Steps, x)
		}
		other, e := Turn(s, v, w)
		if e != api.OK {
			continue
		}
		tried++
		a, first, _ := editor.New(s.Conf, vfs.New())
		b, second, _ := editor.New(other.Conf, vfs.New())
		same := func(x, y string) bool {
			l, _ := emit.Parse(x)
			m, _ := emit.Parse(y)
			return emit.Same(emit.Skeleton(l), emit.Skeleton(m))
		}
		if !same(first, second) {
			t.Fatalf("%q, %q", first, second)
		}
		for j, x := range s.Steps {
			one, two := a.Do(x), b.Do(other.Steps[j])
			if one.E != two.E || !same(one.Out, two.Out) || !event.Same(turned(one.Events, v, w), two.Events) {
				text, _ := tape.Text(s)
				t.Fatalf("step %d of %s: %q, %q", j, text, one.Out, two.Out)
			}
		}
	}
	if tried < 1000 {
		t.Error("too few scripts were turned:", tried)
	}
}
