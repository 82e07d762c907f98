package bind

import (
	"math"
	"math/rand"
	"strings"
	"testing"

	"dactyl/api"
	"dactyl/emacs"
	"dactyl/key"
)

func named(t *testing.T, name string) api.Key {
	t.Helper()
	k, e := key.Parse(name)
	if e != api.OK {
		t.Fatal(name)
	}
	return k
}

func bound(t *testing.T, b Binds, name string, cmd int) Binds {
	t.Helper()
	c, e := b.Bind(named(t, name), cmd)
	if e != api.OK {
		t.Fatalf("%s: %d", name, e)
	}
	return c
}

// P40.1
func TestBind(t *testing.T) {
	none := Binds{}
	a := bound(t, none, "C-o", api.QUndo)
	b := bound(t, a, "C-o", api.QRedo)
	c := bound(t, b, "C-a", api.QNone)
	d := bound(t, c, "RET", api.QEsc)
	if none.Len() != 0 || a.Len() != 1 || b.Len() != 1 || c.Len() != 2 || d.Len() != 3 {
		t.Error("Len")
	}
	o := named(t, "C-o")
	if none.Cmd(o) != api.QNone || a.Cmd(o) != api.QUndo || b.Cmd(o) != api.QRedo || c.Cmd(o) != api.QRedo || c.Cmd(named(t, "C-a")) != api.QNone || d.Cmd(named(t, "RET")) != api.QEsc || d.Cmd(named(t, "LFD")) != api.QEnter {
		t.Error("Cmd")
	}
	if d.Cmd(named(t, "a")) != api.QSelf || d.Cmd(named(t, "P-61")) != api.QPaste || d.Cmd(api.Key{}) != api.QNone || d.Cmd(api.Key{Kind: api.KCtrl, V: 15, Cut: true}) != api.QNone {
		t.Error("what is not bound")
	}
}

// P40.1
func TestRefused(t *testing.T) {
	for _, k := range []api.Key{named(t, "a"), named(t, "P-"), {}, {Kind: api.KCtrl, V: 13}, {Kind: api.KEnter}, {Kind: 99}} {
		for _, cmd := range []int{api.QUndo, -1} {
			if b, e := (Binds{}).Bind(k, cmd); e != api.ErrArg || b.Len() != 0 {
				t.Errorf("%v: %d", k, e)
			}
		}
	}
	a := bound(t, Binds{}, "C-o", api.QUndo)
	for _, cmd := range []int{-1, 42, 43, math.MinInt, math.MaxInt, api.QSelf, api.QPaste} {
		if b, e := a.Bind(named(t, "C-o"), cmd); e != api.ErrRange || b.Len() != 0 || a.Cmd(named(t, "C-o")) != api.QUndo {
			t.Errorf("%d: %d", cmd, e)
		}
	}
}

// P40.2
func TestText(t *testing.T) {
	b := bound(t, bound(t, bound(t, bound(t, Binds{}, "M-z", api.QKillEnd), "C-o", api.QUndo), "DEL", api.QSwapWords), "M-<20>", api.QEsc)
	if got := b.Text(); got != "C-o undo\nDEL swap-words\nM-<20> esc\nM-z kill-end\n" {
		t.Errorf("%q", got)
	}
	if (Binds{}).Text() != "" {
		t.Error("of none")
	}
}

// P40.2
func TestParse(t *testing.T) {
	for s, want := range map[string]string{"": "", "\n\n": "", "# x\n#": "", "C-o undo": "C-o undo\n", "C-o undo\nC-o redo\n\n#C-o up\n": "C-o redo\n", "UP down\nC-a none": "C-a none\nUP down\n", "M-# up": "M-# up\n"} {
		if b, e := Parse(s); e != api.OK || b.Text() != want {
			t.Errorf("%q: %q, %d", s, b.Text(), e)
		}
	}
	for s, want := range map[string]api.Errno{"C-o": api.ErrLine, "C-o ": api.ErrLine, " C-o undo": api.ErrLine, "C-o  undo": api.ErrLine, "C-o undo ": api.ErrLine, "C-o Undo": api.ErrLine, "C-O undo": api.ErrLine, "undo C-o": api.ErrLine, "C-o undo\r\n": api.ErrLine, " ": api.ErrLine, " # x": api.ErrLine, "C-o insert": api.ErrLine, "C-o undo\nx": api.ErrLine, "a undo": api.ErrArg, "P-61 undo": api.ErrArg, "a x": api.ErrLine, "C-o self": api.ErrRange, "C-o paste": api.ErrRange, "a self": api.ErrArg, "C-o undo\na undo\nx": api.ErrArg} {
		if b, e := Parse(s); e != want || b.Len() != 0 {
			t.Errorf("%q: %d", s, e)
		}
	}
}

// P40.2
func TestSame(t *testing.T) {
	a := bound(t, bound(t, Binds{}, "C-o", api.QUndo), "UP", api.QDown)
	b := bound(t, bound(t, bound(t, Binds{}, "UP", api.QDown), "C-o", api.QRedo), "C-o", api.QUndo)
	if !Same(a, b) || !Same(Binds{}, Binds{}) || Same(a, Binds{}) || Same(a, bound(t, a, "UP", api.QUp)) || Same(a, bound(t, a, "C-a", api.QUp)) {
		t.Error("Same")
	}
}

// P40.3, and that no call changes bindings.
func TestBack(t *testing.T) {
	r := rand.New(rand.NewSource(45))
	names := []string{"C-o", "C-a", "M-x", "M-C-@", "M-<3C>", "UP", "RET", "LFD", "ESC", "DELETE", "PGUP", "C-_", "C-\\", "M-#"}
	for range 1000 {
		b := Binds{}
		for range r.Intn(20) {
			cmd := r.Intn(42)
			if cmd == api.QSelf || cmd == api.QPaste {
				continue
			}
			was := b.Text()
			c := bound(t, b, names[r.Intn(len(names))], cmd)
			if b.Text() != was {
				t.Fatal("bindings were changed")
			}
			b = c
		}
		text := b.Text()
		back, e := Parse(text)
		if e != api.OK || !Same(back, b) || back.Text() != text || strings.Count(text, "\n") != b.Len() {
			t.Fatalf("%q came back as %q", text, back.Text())
		}
		for _, name := range names {
			k := named(t, name)
			if back.Cmd(k) != b.Cmd(k) || !strings.Contains("\n"+text, "\n"+name+" ") && b.Cmd(k) != emacs.Cmd(k) {
				t.Fatal(name)
			}
		}
	}
}
