package editor

import (
	"math"
	"math/rand"
	"slices"
	"strings"
	"testing"

	"dactyl/api"
	"dactyl/emit"
	"dactyl/face"
	"dactyl/grid"
	"dactyl/port"
	"dactyl/sign"
	"dactyl/vfs"
)

func conf(inVi bool) api.Conf {
	return api.Conf{W: 12, H: 3, Buf: 60, Paste: 20, Kill: 3, Undo: 20, Hist: 5, Entry: 30, Vi: inVi, Prompt: "$ "}
}

func editor(t *testing.T, f api.Conf, crashes ...api.Crash) (*Editor, *vfs.Disk) {
	t.Helper()
	d := vfs.New(crashes...)
	e, _, err := New(f, d)
	if err != api.OK {
		t.Fatal(err)
	}
	return e, d
}

func bytes(s string) api.Step { return api.Step{Kind: api.SBytes, Text: s} }

func kinds(l []api.Event) []int {
	var k []int
	for _, v := range l {
		k = append(k, v.Kind)
	}
	return k
}

// P32.1
func TestNew(t *testing.T) {
	d := vfs.New()
	for name, c := range map[string]struct {
		spoil func(f *api.Conf)
		disk  *vfs.Disk
		want  api.Errno
	}{
		"no disk": {func(f *api.Conf) { f.W = 0 }, nil, api.ErrNil}, "W": {func(f *api.Conf) { f.W = 0 }, d, api.ErrRange}, "H": {func(f *api.Conf) { f.H = 1001 }, d, api.ErrRange}, "Paste": {func(f *api.Conf) { f.Paste = 0 }, d, api.ErrRange}, "Buf": {func(f *api.Conf) { f.Buf = math.MaxInt }, d, api.ErrRange}, "Entry": {func(f *api.Conf) { f.Entry = 0 }, d, api.ErrRange},
	} {
		f := conf(false)
		c.spoil(&f)
		if e, out, err := New(f, c.disk); e != nil || out != "" || err != c.want {
			t.Errorf("%s: %d", name, err)
		}
	}
	e, out, err := New(conf(false), d)
	if err != api.OK || out != "\x1b[?2004h\x1b[2J\x1b[1;1H$ \x1b[1;3H" {
		t.Errorf("%q, %d", out, err)
	}
	if w, h := e.Sides(); w != 12 || h != 3 || e.Screen().Col != 2 || e.Core() == nil || e.Core().Mode() != api.MInsert {
		t.Error("looks")
	}
	e.Screen().Rows[0][0].V = 'x'
	if e.Screen().Rows[0][0].V != '$' {
		t.Error("a screen of its own")
	}
	var none *Editor
	w, h := none.Sides()
	if told := none.Do(bytes("a")); told.E != api.ErrNil || none.Core() != nil || none.Screen().Rows != nil || w != 0 || h != 0 {
		t.Error("of nil")
	}
}

// P32.2
func TestDo(t *testing.T) {
	e, _ := editor(t, conf(false))
	for _, c := range []struct {
		x      api.Step
		events []int
		out    string
	}{
		{bytes("a"), nil, "\x1b[1;3Ha\x1b[1;4H"}, {bytes(""), nil, ""}, {bytes("\x1b[C"), []int{api.VBell}, "\a"}, {bytes("\x06\x06"), []int{api.VBell, api.VBell}, "\a\a"}, {bytes("\x0c"), []int{api.VErase}, "\x1b[2J\x1b[1;1H$ a\x1b[1;4H"}, {bytes("\x06\x0c\x06"), []int{api.VBell, api.VErase, api.VBell}, "\a\a\x1b[2J\x1b[1;1H$ a\x1b[1;4H"},
		{bytes("\t"), []int{api.VAsk}, ""}, {api.Step{Kind: api.SOffer, L: []string{"ab"}}, nil, "\x1b[1;4H\x1b[0;4mb\x1b[0m\x1b[1;5H"}, {bytes("\x1b"), nil, ""}, {api.Step{Kind: api.STick}, []int{api.VCancel}, "\x1b[1;3H\x1b[K\x1b[1;3H"},
		{api.Step{Kind: api.SResize, N: 3, M: 1}, nil, "\x1b[2J\x1b[1;1H$ \x1b[1;3H"}, {api.Step{Kind: api.SPower}, nil, ""}, {bytes("b\r"), []int{api.VAccept}, ""},
		{bytes("\x1b[200~x\r\x1b[201~"), nil, "\x1b[1;1H\x1b[0;7;4m^M\x1b[0m\x1b[1;3H"},
	} {
		told := e.Do(c.x)
		if told.E != api.OK || !slices.Equal(kinds(told.Events), c.events) || told.Out != c.out {
			t.Errorf("%v: %v, %q, %d", c.x, told.Events, told.Out, told.E)
		}
	}
	if w, h := e.Sides(); w != 3 || h != 1 {
		t.Error("resized")
	}
}

// P32.2
func TestErrors(t *testing.T) {
	e, _ := editor(t, conf(false))
	e.Do(bytes("ab"))
	for _, c := range []struct {
		x    api.Step
		want api.Errno
	}{
		{bytes(strings.Repeat("x", api.MaxText+1)), api.ErrBig}, {api.Step{Kind: 99, Text: strings.Repeat("x", api.MaxText+1)}, api.ErrBig}, {api.Step{Kind: 7}, api.ErrArg}, {api.Step{Kind: -1}, api.ErrArg}, {api.Step{Kind: api.SResize, N: 0, M: 1}, api.ErrRange}, {api.Step{Kind: api.SResize, N: 1, M: 1001}, api.ErrRange}, {api.Step{Kind: api.SResize, N: math.MinInt, M: math.MaxInt}, api.ErrRange},
	} {
		if told := e.Do(c.x); told.E != c.want || told.Out != "" || told.Events != nil {
			t.Errorf("kind %d: %d", c.x.Kind, told.E)
		}
	}
	if told := e.Do(api.Step{Kind: api.SResize, N: 1000, M: 1000}); told.E != api.OK || e.Do(api.Step{Kind: api.SResize, N: 12, M: 3}).E != api.OK {
		t.Error("the greatest sides", told.E)
	}
	if w, h := e.Sides(); sign.Text(e.Core().Line().S) != "ab" || w != 12 || h != 3 {
		t.Error("something was changed")
	}
	if told := e.Do(bytes(strings.Repeat("\x0c", 10) + strings.Repeat("y", api.MaxText-10))); told.E != api.OK || len(e.Core().Line().S) != 60 {
		t.Error("as much as can be", told.E)
	}
}

// P32.2
func TestHistory(t *testing.T) {
	e, d := editor(t, conf(false), api.Crash{At: 8})
	hist := func() string {
		var l []string
		for _, x := range e.Core().Hist() {
			l = append(l, sign.Text(x))
		}
		return strings.Join(l, "/")
	}
	load := api.Step{Kind: api.SLoad}
	if told := e.Do(load); told.E != api.OK || hist() != "" {
		t.Error("nothing to load", told.E)
	}
	e.Do(bytes("one\rtwo\r"))
	if told := e.Do(api.Step{Kind: api.SSave}); told.E != api.OK || told.Out != "" || !slices.Equal(d.Names(), []string{"history"}) || d.Ops() != 4 {
		t.Error("saved", told.E)
	}
	e.Do(bytes("three\r"))
	if told := e.Do(load); told.E != api.OK || hist() != "one/two" {
		t.Error("loaded", hist(), told.E)
	}
	if told := e.Do(api.Step{Kind: api.SLoad, N: 1, Text: "x\\u00000Ay\nz"}); told.E != api.OK || hist() != "x\ny/z" || d.Ops() != 6 {
		t.Error("written by somebody", hist(), told.E)
	}
	if told := e.Do(api.Step{Kind: api.SLoad, N: 2, Text: "no"}); told.E != api.OK || hist() != "x\ny/z" {
		t.Error("N is not 1", hist(), told.E)
	}
	e.Do(bytes("four\r"))
	save := api.Step{Kind: api.SSave}
	if told := e.Do(save); told.E != api.ErrDown || e.Do(save).E != api.ErrDown || e.Do(load).E != api.ErrDown || e.Do(api.Step{Kind: api.SLoad, N: 1}).E != api.ErrDown || hist() != "x\ny/z/four" {
		t.Error("no power", told.E)
	}
	if told := e.Do(api.Step{Kind: api.SPower}); told.E != api.OK || e.Do(load).E != api.OK || hist() != "x\ny/z" {
		t.Error("the old one", hist(), told.E)
	}
	if told := e.Do(save); told.E != api.OK {
		t.Error("with power again", told.E)
	}
}

// P32.3, P32.4, and W1, W4: whatever comes, all that is sent is of the grammar, and a terminal shows what it ought to.
func TestItShows(t *testing.T) {
	r := rand.New(rand.NewSource(35))
	parts := []string{"a", "b", " ", "日", "а", "\x1b[200~x\ry\x1b[31m\x1b[201~", "\x1b[200~", "\x1b[201~", "\r", "\n", "\x1b", "\x1b[A", "\x1b[B", "\x1b[D", "\x12", "\x11", "\t", "\x0b", "\x19", "\x17", "\x0c", "\x7f", "\xC3", "\u202e", "\x01", "\x05", "\x1f", "\x1b1", "k", "/", "\x80", "\x1b[3~"}
	for i := range 600 {
		f := conf(i%2 == 0)
		f.W, f.H, f.Prompt = 1+r.Intn(14), 1+r.Intn(4), []string{"", "$ ", "\x1b[31m", "日", "\xC3\r"}[r.Intn(5)]
		e, out, _ := New(f, vfs.New(api.Crash{At: 3}))
		g, _ := grid.New(f.W, f.H)
		bells := 0
		check := func(out string) {
			w, h := e.Sides()
			f.W, f.H = w, h
			if !emit.Clean(out) || g.Write(out) != api.OK {
				t.Fatalf("%q is not of the grammar", out)
			}
			want, _ := face.Screen(e.Core(), f)
			if !port.Same(g.Screen(), e.Screen()) || !port.Same(e.Screen(), want) || g.Bells() != bells || !g.Framed() {
				t.Fatalf("%q shows %v, not %v", out, g.Screen(), want)
			}
		}
		check(out)
		for range 25 {
			x := bytes(parts[r.Intn(len(parts))] + parts[r.Intn(len(parts))])
			switch r.Intn(12) {
			case 0:
				x = api.Step{Kind: api.STick}
			case 1:
				x = api.Step{Kind: api.SResize, N: r.Intn(14), M: r.Intn(5)}
			case 2:
				x = api.Step{Kind: api.SOffer, L: []string{"ab", "a\x1b", "b日", "ba"}[r.Intn(4):]}
			case 3:
				x = api.Step{Kind: api.SLoad, N: r.Intn(2), Text: "a\\u00001B\n\xFF\x1b[2J\n日本"}
			case 4:
				x = api.Step{Kind: api.SSave + r.Intn(2)}
			}
			told := e.Do(x)
			for _, k := range kinds(told.Events) {
				if k == api.VBell {
					bells++
				}
			}
			if x.Kind == api.SResize && told.E == api.OK {
				g.Resize(x.N, x.M)
			}
			check(told.Out)
		}
	}
}
