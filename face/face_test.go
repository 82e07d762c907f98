package face

import (
	"math"
	"strings"
	"testing"

	"dactyl/api"
	"dactyl/core"
	"dactyl/key"
	"dactyl/port"
	"dactyl/sign"
)

func conf(inVi bool) api.Conf {
	return api.Conf{W: 30, H: 3, Buf: 40, Paste: 20, Kill: 3, Undo: 20, Hist: 5, Entry: 30, Vi: inVi, Prompt: "$ \x1b\xC3"}
}

func made(t *testing.T, f api.Conf, names string) *core.Core {
	t.Helper()
	c, e := core.New(f)
	if e != api.OK {
		t.Fatal(e)
	}
	c.Load([][]api.Sign{sign.Of(0, "abc"), sign.Of(0, "xb")})
	for _, name := range strings.Fields(names) {
		k, e := key.Parse(name)
		if e != api.OK {
			t.Fatal(name)
		}
		c.Do(k)
	}
	return c
}

// P31.1
func TestPrompt(t *testing.T) {
	text := "$ \x1b\xC3"
	for _, c := range []struct {
		inVi        bool
		names, want string
	}{
		{false, "a", text}, {true, "a", text}, {true, "a ESC", "[vi] " + text}, {false, "P-0D RET", "[a pasted line end: Enter again] " + text}, {false, "C-q", "[quote] " + text}, {false, "C-r", "(seek ) "}, {false, "C-r a", "(seek a) "}, {false, "C-r a z", "(failed seek az) "}, {false, "C-r <1100C3>", "(failed seek \xC3) "}, {false, "C-r a RET", text},
	} {
		l := Prompt(made(t, conf(c.inVi), c.names), text)
		if sign.Text(l) != c.want {
			t.Errorf("%s: %q", c.names, sign.Text(l))
		}
		for i, s := range l {
			typed := c.names[:1] == "C" && strings.Contains(c.want, "seek") && i >= strings.Index(c.want, "seek ")+5 && i < len(l)-2
			if typed != (s.L == api.LTyped) || !typed && s.L != api.LPrompt {
				t.Errorf("%s: %v", c.names, l)
			}
		}
	}
	x := made(t, conf(false), "a")
	x.Offer([][]api.Sign{sign.Of(0, "ab"), sign.Of(0, "ac")})
	if l := Prompt(x, text); sign.Text(l) != "[offer] "+text || !sign.Same(l, sign.With(l, api.LPrompt)) {
		t.Errorf("offer: %v", l)
	}
	if l := Prompt(nil, text); sign.Text(l) != text || !sign.Same(l, sign.Of(api.LPrompt, text)) {
		t.Errorf("of nil: %v", l)
	}
}

// P31.2
func TestScreen(t *testing.T) {
	for _, names := range []string{"", "a b C-b", "C-r b", "C-r b z", "C-q", "P-0D RET"} {
		f := conf(false)
		c := made(t, f, names)
		shown := c.Shown()
		want, e := port.Screen(Prompt(c, f.Prompt), shown.S, shown.At, f.W, f.H)
		got, g := Screen(c, f)
		if e != api.OK || g != api.OK || !port.Same(got, want) || port.Check(got) != api.OK {
			t.Errorf("%s: %v, %d", names, got, g)
		}
	}
	for _, sides := range [][2]int{{0, 3}, {3, 0}, {1001, 1}, {1, 1001}, {math.MinInt, math.MaxInt}} {
		f := conf(false)
		f.W, f.H = sides[0], sides[1]
		if s, e := Screen(made(t, conf(false), "a"), f); e != api.ErrRange || s.Rows != nil {
			t.Errorf("%v: %d", sides, e)
		}
	}
	if s, e := Screen(nil, conf(false)); e != api.OK || s.Row != 0 || s.Col != 8 {
		t.Errorf("of nil: %d, %d, %d", s.Row, s.Col, e)
	}
}

// P31.3
func TestToldApart(t *testing.T) {
	for _, prompt := range []string{"", "$ ", "> "} {
		plain := sign.Text(Prompt(made(t, conf(true), ""), prompt))
		for _, names := range []string{"a ESC", "P-0D RET", "C-q", "C-r", "C-r z"} {
			if p := sign.Text(Prompt(made(t, conf(true), names), prompt)); p == "" || plain != "" && p[0] == plain[0] {
				t.Errorf("%s: %q", names, p)
			}
		}
	}
}
