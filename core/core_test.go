package core

import (
	"math"
	"math/rand"
	"slices"
	"strconv"
	"strings"
	"testing"

	"dactyl/api"
	"dactyl/key"
	"dactyl/line"
	"dactyl/sign"
)

func conf(inVi bool) api.Conf {
	return api.Conf{W: 20, H: 4, Buf: 40, Paste: 20, Kill: 3, Undo: 20, Hist: 5, Entry: 30, Vi: inVi}
}

func fresh(t *testing.T, f api.Conf, history ...string) *Core {
	t.Helper()
	c, e := New(f)
	if e != api.OK {
		t.Fatal(e)
	}
	var h [][]api.Sign
	for _, s := range history {
		h = append(h, sign.Of(api.LHist, s))
	}
	c.Load(h)
	return c
}

// says tells a line's text, with a bar where the cursor is.
func says(x api.Line) string {
	return sign.Text(x.S[:x.At]) + "|" + sign.Text(x.S[x.At:])
}

// told tells events.
func told(l []api.Event) string {
	names := map[int]string{api.VAccept: "accept", api.VBell: "bell", api.VAsk: "ask", api.VCancel: "cancel", api.VEof: "eof", api.VErase: "erase"}
	var b []string
	for _, v := range l {
		s := names[v.Kind]
		if v.Kind == api.VAccept || v.Kind == api.VAsk || v.Kind == api.VCancel {
			s += "(" + says(api.Line{S: v.S, At: v.At}) + ")"
		} else if len(v.S) > 0 || v.At != 0 {
			s += "?"
		}
		b = append(b, s)
	}
	return strings.Join(b, " ")
}

func modeName(mode int) string {
	return []string{"insert", "command", "seek", "offer", "sure", "quote"}[mode]
}

// play does keys by their names, and tells what happened, the line, and the mode.
func play(t *testing.T, c *Core, names string) string {
	t.Helper()
	var events []api.Event
	for _, name := range strings.Fields(names) {
		k, e := key.Parse(name)
		if e != api.OK {
			t.Fatal(name)
		}
		events = append(events, c.Do(k)...)
	}
	s := says(c.Line()) + " " + modeName(c.Mode())
	if len(events) > 0 {
		s = told(events) + " " + s
	}
	return s
}

type scene struct{ names, want string }

func scenes(t *testing.T, f api.Conf, history []string, l []scene) {
	t.Helper()
	for _, x := range l {
		if got := play(t, fresh(t, f, history...), x.names); got != x.want {
			t.Errorf("%s: %q, not %q", x.names, got, x.want)
		}
	}
}

// P30.1
func TestNew(t *testing.T) {
	for name, spoil := range map[string]func(f *api.Conf){
		"buf": func(f *api.Conf) { f.Buf = 0 }, "buf above": func(f *api.Conf) { f.Buf = api.MaxBuf + 1 }, "kill": func(f *api.Conf) { f.Kill = 0 }, "undo": func(f *api.Conf) { f.Undo = -1 },
		"hist": func(f *api.Conf) { f.Hist = 0 }, "entry": func(f *api.Conf) { f.Entry = math.MaxInt },
	} {
		f := conf(false)
		spoil(&f)
		if c, e := New(f); c != nil || e != api.ErrRange {
			t.Errorf("%s: %d", name, e)
		}
	}
	c := fresh(t, conf(false))
	pattern, failed := c.Pattern()
	if c.Mode() != api.MInsert || len(c.Line().S) != 0 || len(c.Shown().S) != 0 || c.Mark() != 0 || len(c.Kills()) != 0 || len(c.Hist()) != 0 || len(pattern) != 0 || failed {
		t.Error("at first")
	}
	// W, H, Paste are no bounds of a core.
	if _, e := New(api.Conf{Buf: 1, Kill: 1, Undo: 1, Hist: 1, Entry: 1}); e != api.OK {
		t.Error(e)
	}
}

// P30.1 to P30.3
func TestNil(t *testing.T) {
	var c *Core
	c.Load(nil)
	pattern, failed := c.Pattern()
	if c.Do(api.Key{Kind: api.KEnter, V: 13}) != nil || c.Offer(nil) != nil || c.Mode() != 0 || len(c.Line().S) != 0 || len(c.Shown().S) != 0 || c.Mark() != 0 || len(c.Kills()) != 0 || len(c.Hist()) != 0 || len(pattern) != 0 || failed {
		t.Error("of nil")
	}
}

// P30.2
func TestTextCommands(t *testing.T) {
	scenes(t, conf(false), nil, []scene{
		{"a b", "ab| insert"}, {"<E9> <1100C3>", "é\xC3| insert"},
		{"a b C-b x", "ax|b insert"}, {"a b LEFT LEFT LEFT", "bell |ab insert"}, {"a RIGHT", "bell a| insert"}, {"a b c C-a C-f", "a|bc insert"},
		{"M-3 x", "xxx| insert"}, {"M-0 x", "bell | insert"}, {"M-- x", "bell | insert"}, {"M-1 2 x", "xxxxxxxxxxxx| insert"}, {"M-4 1 x", "bell | insert"}, {"M-4 0 x y", "bell xxxxxxxxxxxxxxxxxxxxxxxxxxxxxxxxxxxxxxxx| insert"},
		{"a b c d M-3 C-b", "a|bcd insert"}, {"a b c d M-9 C-b", "|abcd insert"}, {"a b C-a M-- C-b", "a|b insert"}, {"a b C-a M-- M-2 C-f", "bell |ab insert"}, {"a b M-0 C-b", "bell ab| insert"}, {"a b M-- C-f", "a|b insert"},
		{"a <20> b c M-b", "a |bc insert"}, {"a <20> b c M-2 M-b", "|a bc insert"}, {"a <20> b c M-b M-b M-b", "bell |a bc insert"}, {"a <20> b c C-a M-f", "a| bc insert"}, {"a <20> b c C-a M-2 M-f", "a bc| insert"}, {"a <20> b M-f", "bell a b| insert"}, {"a <20> b c M-- M-f", "a |bc insert"}, {"a <20> b C-a M-- M-b", "a| b insert"}, {"a M-0 M-b", "bell a| insert"},
		{"a b HOME x END y", "xaby| insert"}, {"C-a C-e", "| insert"},
		{"a b c C-a DELETE", "|bc insert"}, {"a b c C-a M-2 DELETE", "|c insert"}, {"a DELETE", "bell a| insert"}, {"a b c DEL", "ab| insert"}, {"a b c C-h", "ab| insert"}, {"a b c M-2 DEL", "a| insert"}, {"a b c M-9 DEL", "| insert"}, {"DEL", "bell | insert"}, {"a b C-a M-- DEL", "|b insert"}, {"a b M-- DELETE", "a| insert"}, {"a M-0 DEL", "bell a| insert"},
		{"a b c C-a C-f C-k", "a| insert"}, {"a C-k", "bell a| insert"}, {"a b c C-b C-u", "|c insert"}, {"C-u", "bell | insert"}, {"a b <20> c C-a M-d", "| c insert"}, {"a b <20> c M-<7F>", "ab | insert"}, {"a b <20> c C-w", "ab | insert"}, {"a b <20> c M-C-h", "ab | insert"}, {"a <20> b <20> c M-2 C-w", "a | insert"}, {"a <20> b C-a M-- M-d", "bell |a b insert"}, {"a b C-b M-a", "| insert"}, {"M-a", "bell | insert"},
		{"a b C-w C-y C-y", "abab| insert"}, {"C-y", "bell | insert"}, {"a C-w b C-w C-y M-y", "a| insert"}, {"a M-y", "bell a| insert"}, {"a C-w b C-w C-y M-y M-y", "b| insert"},
		{"a b C-t", "ba| insert"}, {"a C-t", "bell a| insert"}, {"a b <20> c d M-t", "cd ab| insert"}, {"a M-t", "bell a| insert"},
		{"a b <20> c d C-a M-u", "AB| cd insert"}, {"a b <20> c d C-a M-c M-c", "Ab Cd| insert"}, {"A B C-a M-l", "ab| insert"}, {"a M-u", "bell a| insert"}, {"a <20> b C-a M-2 M-u", "A B| insert"}, {"a <20> b M-- M-u", "a B| insert"},
		{"a b C-_", "| insert"}, {"C-_", "bell | insert"}, {"a b C-_ M-r", "ab| insert"}, {"M-r", "bell | insert"},
		{"a b C-@ c C-a M-x", "ab|c insert"}, {"a b C-@ c M-k", "ab| insert"}, {"a M-w C-y", "aa| insert"}, {"a C-@ M-w", "bell a| insert"}, {"a C-@ M-k", "bell a| insert"}, {"a b C-@ c M-w C-y", "abcc| insert"},
		{"C-o", "bell | insert"}, {"M-z", "bell | insert"}, {"C-s", "bell | insert"}, {"C-]", "bell | insert"},
		{"P-610D62", "a\rb| insert"}, {"P-", "bell | insert"}, {"P-61!", "bell a| insert"}, {"P-!", "bell bell | insert"}, {"M-3 P-61", "a| insert"},
		{"C-d", "eof | insert"}, {"a C-a C-d", "| insert"}, {"a C-d", "bell a| insert"}, {"a b C-a M-5 C-d", "|b insert"},
		{"C-l", "erase | insert"}, {"a b C-b C-i", "ask(a|b) a|b insert"}, {"a C-c", "cancel(a|) | insert"}, {"a C-g", "cancel(a|) | insert"}, {"a ESC", "cancel(a|) | insert"}, {"C-c", "cancel(|) | insert"},
		{"a b C-b RET", "accept(a|b) | insert"}, {"RET", "accept(|) | insert"}, {"a LFD", "accept(a|) | insert"}, {"M-3 RET x", "accept(|) x| insert"}, {"M-3 C-o x", "bell x| insert"},
	})
}

// P30.2
func TestLabels(t *testing.T) {
	c := fresh(t, conf(false))
	play(t, c, "a P-62 C-q C-a C-v RET")
	if !sign.Same(c.Line().S, []api.Sign{{V: 'a', L: api.LTyped}, {V: 'b', L: api.LPaste}, {V: 1, L: api.LQuoted}, {V: 13, L: api.LQuoted}}) {
		t.Errorf("%v", c.Line())
	}
	c.Do(api.Key{Kind: api.KEnter, V: 13})
	if len(c.Hist()) != 1 || !sign.Same(c.Hist()[0], sign.Of(api.LHist, "ab\x01\r")) {
		t.Errorf("%v", c.Hist())
	}
}

// P30.2
func TestQuote(t *testing.T) {
	scenes(t, conf(false), nil, []scene{
		{"C-q", "| quote"}, {"C-q a", "a| insert"}, {"C-q RET", "\r| insert"}, {"C-v LFD", "\n| insert"}, {"C-q ESC", "\x1b| insert"}, {"C-q DEL", "\x7f| insert"}, {"C-q C-c", "\x03| insert"}, {"C-q UP", "bell | insert"}, {"C-q M-f", "bell | insert"}, {"C-q P-61", "bell | insert"}, {"C-q C-q C-q C-q", "\x11\x11| insert"}, {"M-3 C-q a", "a| insert"},
	})
}

// P30.2
func TestSure(t *testing.T) {
	scenes(t, conf(false), nil, []scene{
		{"P-610D RET", "a\r| sure"}, {"P-610A RET", "a\n| sure"}, {"P-610D RET RET", "accept(a\r|) | insert"}, {"P-610D RET LFD", "accept(a\r|) | insert"}, {"P-610D RET x", "a\rx| insert"}, {"P-610D RET C-c", "cancel(a\r|) | insert"}, {"P-610D RET DEL RET", "accept(a|) | insert"}, {"P-610D RET P-0A RET", "a\r\n| sure"}, {"P-0D RET ESC", "cancel(\r|) | insert"}, {"P-0D RET C-r", "\r| seek"}, {"P-0D RET C-q RET", "\r\r| insert"},
		{"C-q RET RET", "accept(\r|) | insert"}, {"P-0D RET x RET RET", "accept(\rx|) | insert"}, {"P-0C RET", "accept(\f|) | insert"},
	})
	scenes(t, conf(true), nil, []scene{{"P-0D ESC RET", "|\r sure"}, {"P-0D ESC RET x", "| command"}, {"P-0D ESC RET RET", "accept(|\r) | insert"}, {"P-0D ESC RET ESC", "|\r command"}})
}

// P30.2
func TestHistory(t *testing.T) {
	h := []string{"one", "two", "on"}
	scenes(t, conf(false), h, []scene{
		{"UP", "on| insert"}, {"x UP UP", "two| insert"}, {"x UP UP UP UP", "bell one| insert"}, {"x UP DOWN", "x| insert"}, {"DOWN", "bell | insert"}, {"x C-p C-p C-n", "on| insert"}, {"x PGUP", "one| insert"}, {"x M-<3C>", "one| insert"}, {"x PGUP PGUP", "bell one| insert"}, {"x PGUP PGDN", "x| insert"}, {"x M->", "bell x| insert"}, {"x UP y UP", "two| insert"}, {"x UP y DOWN", "x| insert"},
		{"o M-p", "o|n insert"}, {"o M-p M-p", "o|ne insert"}, {"o M-p M-p M-p", "bell o|ne insert"}, {"t M-p", "t|wo insert"}, {"x M-p", "bell x| insert"}, {"M-p", "|on insert"}, {"o x C-b M-p DOWN", "ox| insert"}, {"o M-p M-p DOWN DOWN", "on| insert"}, {"o M-p M-p DOWN DOWN DOWN", "o| insert"},
		{"UP RET UP", "accept(on|) on| insert"}, {"UP UP RET UP UP", "accept(two|) on| insert"}, {"UP UP C-c UP", "cancel(two|) on| insert"}, {"UP C-_", "| insert"},
	})
	scenes(t, conf(false), nil, []scene{{"UP", "bell | insert"}, {"PGUP", "bell | insert"}, {"a RET b RET a RET UP UP UP", "accept(a|) accept(b|) accept(a|) bell b| insert"}, {"RET UP", "accept(|) bell | insert"}})
	// A line that is too long for an entry is done, and in no history.
	c := fresh(t, conf(false), "one")
	if got := play(t, c, "M-3 1 x UP C-c M-3 1 x RET UP"); got != "cancel(one|) accept(xxxxxxxxxxxxxxxxxxxxxxxxxxxxxxx|) one| insert" {
		t.Error(got)
	}
	// An entry that is too long for the line is refused.
	f := conf(false)
	f.Buf = 2
	scenes(t, f, h, []scene{{"x UP", "on| insert"}, {"x UP UP", "bell on| insert"}})
}

// P30.1, P30.2
func TestSeek(t *testing.T) {
	h := []string{"abc", "xb", "ab"}
	scenes(t, conf(false), h, []scene{
		{"C-r", "| seek"}, {"C-r a RET", "|ab insert"}, {"C-r b RET", "a|b insert"}, {"C-r a b c LEFT", "bell |abc insert"}, {"C-r b ESC", "a|b insert"}, {"q C-r b C-c", "q| insert"}, {"q C-r b C-g", "q| insert"}, {"C-r b C-r RET", "x|b insert"}, {"C-r b C-r C-r C-r RET", "bell a|bc insert"}, {"C-r b C-r C-s RET", "a|b insert"}, {"C-r C-r", "bell | seek"}, {"C-r C-s", "bell | seek"}, {"C-r DEL", "bell | seek"}, {"C-r C-h", "bell | seek"},
		{"C-r a DEL RET", "| insert"}, {"C-r x C-h b RET", "a|b insert"}, {"C-r z", "| seek"}, {"q C-r z RET", "q| insert"}, {"q C-r a z RET", "ab| insert"}, {"C-r b C-f", "ab| insert"}, {"C-r b C-e z", "abz| insert"}, {"C-r b P-71", "aq|b insert"}, {"C-r b UP", "ab| insert"}, {"C-r b C-q", "a|b quote"}, {"C-r b M-2 x", "axx|b insert"}, {"C-r b C-r C-r C-k", "a| insert"}, {"C-r C-r C-e C-r", "bell | seek"},
	})
	c := fresh(t, conf(false), h...)
	play(t, c, "q C-r")
	if says(c.Shown()) != "q|" {
		t.Error("no pattern", says(c.Shown()))
	}
	play(t, c, "b z")
	pattern, failed := c.Pattern()
	if says(c.Shown()) != "ab|" || says(c.Line()) != "q|" || !failed || !sign.Same(pattern, sign.Of(0, "bz")) {
		t.Error("shown", says(c.Shown()), failed)
	}
	play(t, c, "DEL")
	if pattern, failed := c.Pattern(); failed || sign.Text(pattern) != "b" || says(c.Shown()) != "a|b" {
		t.Error("less", says(c.Shown()))
	}
	play(t, c, "C-c")
	if pattern, failed := c.Pattern(); failed || len(pattern) != 0 || says(c.Shown()) != "q|" {
		t.Error("behind a search")
	}
	f := conf(true)
	scenes(t, f, h, []scene{{"ESC / b RET", "a|b command"}, {"ESC / b ESC", "a|b command"}, {"ESC / b LEFT", "|ab command"}, {"ESC / C-c", "| command"}, {"ESC / a z RET", "ab| command"}, {"ESC / a z UP", "a|b command"}, {"C-r b RET", "a|b insert"}, {"C-r b C-e", "ab| insert"}})
	if got := play(t, fresh(t, conf(false)), "C-r b C-r RET"); got != "bell | insert" {
		t.Error("no entries", got)
	}
}

func offered(t *testing.T, c *Core, texts ...string) string {
	t.Helper()
	var l [][]api.Sign
	for _, s := range texts {
		l = append(l, sign.Of(api.LCand, s))
	}
	events := c.Offer(l)
	return strings.TrimSpace(told(events) + " " + says(c.Line()) + " " + modeName(c.Mode()))
}

// P30.1 to P30.3
func TestOffer(t *testing.T) {
	for _, c := range []struct{ ahead, texts, behind, want, shown string }{
		{"c", "cat", "", "cat| insert", "cat|"}, {"c x C-b", "cat", "", "cat|x insert", "cat|x"}, {"c", "cat car", "", "c| offer", "ca|"}, {"c", "cat car", "C-i", "c| offer", "cat|"}, {"c", "cat car", "C-i DOWN", "c| offer", "car|"}, {"c", "cat car", "DOWN DOWN DOWN", "c| offer", "ca|"}, {"c", "cat car", "UP", "c| offer", "car|"},
		{"c", "cat car", "C-i RET", "cat| insert", "cat|"}, {"c", "cat car", "RET", "ca| insert", "ca|"}, {"c", "cat car", "C-c", "c| insert", "c|"}, {"c", "cat car", "C-g", "c| insert", "c|"}, {"c", "cat car", "ESC", "c| insert", "c|"}, {"c", "cat car", "UP x", "carx| insert", "carx|"}, {"c", "cat car", "UP C-a", "|car insert", "|car"}, {"c", "cat car", "UP RET RET", "accept(car|) | insert", "|"}, {"c", "cat car", "C-i P-71", "catq| insert", "catq|"}, {"c", "cat car", "C-i C-i C-i C-i", "c| offer", "cat|"},
		{"c", "dog", "", "bell c| insert", "c|"}, {"c", "", "", "bell c| insert", "c|"}, {"C-q", "cat", "", "bell | quote", "|"}, {"C-r", "cat", "", "bell | seek", "|"}, {"M-4 0 c", "ccccccccccccccccccccccccccccccccccccccccc", "", "bell cccccccccccccccccccccccccccccccccccccccc| insert", "cccccccccccccccccccccccccccccccccccccccc|"},
	} {
		x := fresh(t, conf(false))
		play(t, x, c.ahead)
		got := offered(t, x, strings.Fields(c.texts)...)
		if c.behind != "" {
			got = play(t, x, c.behind)
		}
		if got != c.want || says(x.Shown()) != c.shown {
			t.Errorf("%v: %q, %q", c, got, says(x.Shown()))
		}
	}
	x := fresh(t, conf(false))
	play(t, x, "c")
	offered(t, x, "cat", "car")
	if got := offered(t, x, "cat"); got != "bell c| offer" {
		t.Error("while something is offered", got)
	}
	play(t, x, "C-i RET")
	if !sign.Same(x.Line().S, []api.Sign{{V: 'c'}, {V: 'a', L: api.LCand}, {V: 't', L: api.LCand}}) {
		t.Error("labels", x.Line())
	}
	// An offer that would be too long for the line.
	f := conf(false)
	f.Buf = 2
	y := fresh(t, f)
	play(t, y, "c")
	if got := offered(t, y, "cat"); got != "bell c| insert" {
		t.Error("one that is too long", got)
	}
	offered(t, y, "cat", "car")
	if got := play(t, y, "C-i x"); got != "bell cx| insert" {
		t.Error("some that are too long", got)
	}
}

// P30.2
func TestVi(t *testing.T) {
	scenes(t, conf(true), []string{"one", "two"}, []scene{
		{"ESC", "| command"}, {"a b ESC", "a|b command"}, {"a b ESC ESC ESC", "a|b command"}, {"a b ESC h h", "bell |ab command"}, {"a b ESC i x", "ax|b insert"}, {"a b ESC a x", "abx| insert"}, {"a b ESC I x", "x|ab insert"}, {"a b c ESC x", "a|b command"}, {"a b c ESC 2 x", "a|b command"}, {"a b c ESC 0 D", "| command"}, {"a b c ESC 0 D p", "ab|c command"}, {"a b c ESC 0 x p", "ba|c command"}, {"a b c ESC p", "bell ab|c command"}, {"a b c ESC C x", "abx| insert"}, {"a ESC c c x", "x| insert"}, {"ESC c c x", "x| insert"},
		{"a b ESC $", "a|b command"}, {"a b ESC l", "a|b command"}, {"a ESC u", "| command"}, {"a ESC 3 u", "bell | command"}, {"a ESC u C-r", "|a command"}, {"a b ESC z", "bell a|b command"}, {"a b ESC r x", "a|x command"}, {"a b ESC 0 ~", "A|b command"}, {"a b ESC ~", "a|B command"}, {"a b <20> c ESC 0 d w", "|c command"}, {"a b ESC 0 y $ P", "ab|ab command"},
		{"ESC k", "tw|o command"}, {"ESC k k", "on|e command"}, {"x ESC k j", "|x command"}, {"x ESC k k G", "|x command"}, {"ESC j", "bell | command"}, {"ESC UP DOWN", "| command"}, {"a ESC RET", "accept(|a) | insert"}, {"a ESC RET b", "accept(|a) b| insert"}, {"a ESC C-c", "cancel(|a) | insert"}, {"a ESC C-l", "erase |a command"}, {"a ESC P-62", "b|a command"}, {"ESC P-6263", "b|c command"}, {"a ESC /", "|a seek"}, {"a ESC C-q", "bell |a command"}, {"a ESC C-d", "bell |a command"},
		{"M-3 x", "bell x| insert"}, {"a C-a M-f", "a| insert"}, {"C-q ESC", "\x1b| insert"}, {"a C-a ESC", "|a command"}, {"a b ESC d i x", "bell |a command"}, {"a b ESC 2 C-c 3", "cancel(a|b) 3| insert"}, {"a b ESC d RET ESC w", "accept(a|b) bell | command"}, {"a b c ESC 0 f c x", "a|b command"},
	})
	// Of ops of which one is refused those behind it are not done, nor the command.
	f := conf(true)
	f.Buf = 3
	scenes(t, f, nil, []scene{{"a b c ESC y y p", "bell ab|c command"}, {"a b c ESC y y 0 P", "bell |abc command"}})
}

// P30.2: a key that may not be is refused, whatever the mode.
func TestWrongKeys(t *testing.T) {
	for _, names := range []string{"a", "C-q", "C-r", "P-0D RET"} {
		c := fresh(t, conf(false))
		was := play(t, c, names)
		for _, k := range []api.Key{{}, {Kind: 99}, {Kind: api.KSign, V: 10}, {Kind: api.KEnter, V: 1}, {Kind: api.KPaste, Text: strings.Repeat("x", api.MaxPaste+1)}, {Kind: api.KEnter, V: 13, Cut: true}} {
			if got := told(c.Do(k)); got != "bell" || play(t, c, "") != was {
				t.Errorf("%s, then %v: %s", names, k, got)
			}
		}
	}
}

// P30.3
func TestLoad(t *testing.T) {
	c := fresh(t, conf(false), "a", "b", "a", "", "c", "d", "e", "f", strings.Repeat("x", 31))
	var l []string
	for _, x := range c.Hist() {
		l = append(l, sign.Text(x))
	}
	if !slices.Equal(l, []string{"a", "c", "d", "e", "f"}) {
		t.Errorf("%v", l)
	}
	play(t, c, "UP UP")
	c.Load([][]api.Sign{sign.Of(0, "z")})
	if got := play(t, c, "UP"); got != "z| insert" {
		t.Error("behind Load", got)
	}
	c.Hist()[0][0].V = 'q'
	if sign.Text(c.Hist()[0]) != "z" {
		t.Error("entries of its own")
	}
}

// someKey tells a key that often does something.
func someKey(r *rand.Rand) api.Key {
	names := "a b C-a C-e C-f C-b C-r C-r C-q C-v C-i C-k C-w C-y M-y C-t M-t M-u C-_ M-r C-@ M-x UP DOWN PGUP PGDN M-p RET RET RET LFD ESC ESC DEL DELETE LEFT P-61 P-0D62 P-0A P-62! C-c C-s C-h C-d M-3 M-- 2 d w h l x p i / k G u r f c C-l <20> M-w M-k M-a"
	l := strings.Fields(names)
	k, _ := key.Parse(l[r.Intn(len(l))])
	return k
}

// P30.4
func TestAccept(t *testing.T) {
	r := rand.New(rand.NewSource(34))
	accepts, sure := 0, 0
	for i := range 3000 {
		c := fresh(t, conf(i%2 == 0), "ab", "a\rb", "cat")
		for range 60 {
			if r.Intn(15) == 0 {
				for _, v := range c.Offer([][]api.Sign{sign.Of(api.LCand, "abc"), sign.Of(api.LCand, "a\r"), sign.Of(api.LCand, "abd")}[:r.Intn(4)]) {
					if v.Kind != api.VBell {
						t.Fatal("an offer did more than ring")
					}
				}
				continue
			}
			k, mode, was := someKey(r), c.Mode(), c.Line()
			n := 0
			for _, v := range c.Do(k) {
				if v.Kind != api.VAccept {
					continue
				}
				n++
				accepts++
				if k.Kind != api.KEnter || mode == api.MQuote || mode == api.MSeek || mode == api.MOffer || !line.Same(was, api.Line{S: v.S, At: v.At}) {
					t.Fatalf("%v in mode %d: %v", k, mode, v)
				}
				if hasPastedEnd(was.S) != (mode == api.MSure) {
					t.Fatalf("%v in mode %d: %v", k, mode, was)
				}
				if mode == api.MSure {
					sure++
				}
			}
			if k.Kind == api.KEnter && mode == api.MInsert && !hasPastedEnd(was.S) && n != 1 {
				t.Fatalf("%v in MInsert: no accept of %v", k, was)
			}
			if x := c.Line(); !line.Right(x) || len(x.S) > 40 || c.Mark() > len(x.S) || !line.Right(c.Shown()) || len(c.Hist()) > 5 || len(c.Kills()) > 3 {
				t.Fatal(says(x))
			}
			if c.Mode() == api.MCommand && mode == api.MCommand && c.Line().At == len(c.Line().S) && len(c.Line().S) > 0 {
				t.Fatal("behind the last sign")
			}
		}
	}
	if accepts < 1000 || sure < 20 {
		t.Error("too few lines were done: " + strconv.Itoa(accepts) + ", " + strconv.Itoa(sure))
	}
}
