package watch

import (
	"math/rand"
	"strings"
	"testing"

	"dactyl/api"
	"dactyl/frame"
)

func conf(inVi bool) api.Conf {
	return api.Conf{W: 12, H: 3, Buf: 60, Paste: 20, Kill: 3, Undo: 20, Hist: 5, Entry: 30, Vi: inVi, Prompt: "$ "}
}

func watch(t *testing.T, f api.Conf, crashes ...api.Crash) *Watch {
	t.Helper()
	w, e := New(f, crashes...)
	if e != api.OK {
		t.Fatal(e)
	}
	return w
}

func bytes(s string) api.Step { return api.Step{Kind: api.SBytes, Text: s} }

// P35.1
func TestNew(t *testing.T) {
	f := conf(false)
	f.H = 0
	if w, e := New(f); w != nil || e != api.ErrRange {
		t.Error("New", e)
	}
	if v := watch(t, conf(false)).Verdict(); v != (api.Verdict{Bad: -1}) {
		t.Error("at first", v)
	}
	var none *Watch
	told, ok := none.Do(bytes("a"))
	if told.E != api.ErrNil || ok || none.Verdict() != (api.Verdict{Bad: -1}) || none.Editor() != nil {
		t.Error("of nil")
	}
}

// P35.1, P35.2
func TestDo(t *testing.T) {
	w := watch(t, conf(false), api.Crash{At: 0})
	n := 0
	for _, x := range []api.Step{bytes("a\r"), bytes("\x1b[C\x1b[C"), {Kind: api.SResize, N: 5, M: 2}, {Kind: api.SResize}, {Kind: api.SSave}, {Kind: 9}, bytes("\x1b"), {Kind: api.STick}, bytes("b\nc\r")} {
		told, ok := w.Do(x)
		n += len(told.Out)
		if !ok {
			t.Errorf("%v is not as it ought to be", x)
		}
		if x.Kind == api.SSave && told.E != api.ErrDown {
			t.Error("crashes", told.E)
		}
	}
	if v := w.Verdict(); v != (api.Verdict{Steps: 9, Accepts: 3, Bells: 2, Bytes: n, Bad: -1}) || w.Editor() == nil {
		t.Error(v)
	}
	if s, _ := w.Editor().Sides(); s != 5 {
		t.Error("sides")
	}
}

// P35.2: what is not as it ought to be is told, from then on.
func TestBad(t *testing.T) {
	w := watch(t, conf(false))
	w.Do(bytes("a"))
	w.Editor().Core().Do(api.Key{Kind: api.KSign, V: 'x'})
	if _, ok := w.Do(api.Step{Kind: 9}); ok || w.Verdict().Bad != 1 {
		t.Error("a screen that is not the core's", w.Verdict())
	}
	if _, ok := w.Do(bytes("b")); ok || w.Verdict().Bad != 1 {
		t.Error("behind it", w.Verdict())
	}
	rang := watch(t, conf(false))
	rang.Editor().Do(bytes("\x1b[C"))
	rang.bells++
	if _, ok := rang.Do(bytes("a")); ok {
		t.Error("a bell that did not ring")
	}
	framed := watch(t, conf(false))
	framed.grid.Do(api.Out{Kind: api.OPaste})
	if _, ok := framed.Do(bytes("a")); ok {
		t.Error("pastes are not framed")
	}
}

// P35.3
func TestAgainst(t *testing.T) {
	accept := api.Told{Events: []api.Event{{Kind: api.VAccept}}}
	bell := api.Told{Events: []api.Event{{Kind: api.VBell}}}
	for i, c := range []struct {
		steps []api.Step
		told  []api.Told
		want  int
	}{
		{nil, nil, -1}, {[]api.Step{bytes("\r")}, nil, -1}, {nil, []api.Told{accept}, -1}, {[]api.Step{bytes("\r")}, []api.Told{accept}, -1}, {[]api.Step{bytes("a")}, []api.Told{accept}, 0}, {[]api.Step{bytes("a")}, []api.Told{bell}, -1},
		{[]api.Step{bytes("\r"), bytes("a")}, []api.Told{bell, accept}, 1}, {[]api.Step{bytes("\r\n")}, []api.Told{{Events: []api.Event{{Kind: api.VAccept}, {Kind: api.VBell}, {Kind: api.VAccept}}}}, -1}, {[]api.Step{bytes("\r")}, []api.Told{{Events: []api.Event{{Kind: api.VAccept}, {Kind: api.VAccept}}}}, 0},
		{[]api.Step{bytes("\x1b[200~"), bytes("\r")}, []api.Told{bell, accept}, 1}, {[]api.Step{bytes("\x1b[200~"), bytes("\x1b[201~\r")}, []api.Told{bell, accept}, -1}, {[]api.Step{bytes("\x1b[20"), {Kind: api.STick}, bytes("0~\r")}, []api.Told{bell, bell, accept}, -1}, {[]api.Step{bytes("\x1b[20"), {Kind: api.SSave}, bytes("0~\r")}, []api.Told{bell, bell, accept}, 2}, {[]api.Step{bytes("\x1b[200~\x1b[20"), {Kind: api.STick}, bytes("1~\r")}, []api.Told{bell, bell, accept}, -1},
		{[]api.Step{{Kind: api.SOffer, L: []string{"\r"}, Text: "\r"}}, []api.Told{accept}, 0}, {[]api.Step{{Kind: api.SLoad, N: 1, Text: "\r"}}, []api.Told{accept}, 0}, {[]api.Step{{Kind: api.STick, Text: "\r"}}, []api.Told{accept}, 0},
	} {
		if got := Against(c.steps, c.told); got != c.want {
			t.Errorf("%d: %d, not %d", i, got, c.want)
		}
	}
}

func someSteps(r *rand.Rand) []api.Step {
	parts := []string{"a", "b", " ", "日", "\x1b[200~x\ry\x1b[201~", "\x1b[200~", "\x1b[201~", "\x1b[20", "0~", "\r", "\n", "\r", "\x1b", "\x1b[A", "\x1b[D", "\x12", "\x11", "\t", "\x0b", "\x19", "\x0c", "\x7f", "\xE6", "\x97", "\u202e", "\x1f", "\x1b1", "k", "/", "\x1b[201"}
	var l []api.Step
	for range 25 {
		x := bytes(parts[r.Intn(len(parts))] + parts[r.Intn(len(parts))])
		switch r.Intn(12) {
		case 0:
			x = api.Step{Kind: api.STick}
		case 1:
			x = api.Step{Kind: api.SResize, N: r.Intn(14), M: r.Intn(5)}
		case 2:
			x = api.Step{Kind: api.SOffer, L: []string{"ab", "a\r", "b日", "ba"}[r.Intn(4):]}
		case 3:
			x = api.Step{Kind: api.SLoad, N: r.Intn(2), Text: "a\\u00000D\n\xFF\x1b[2J\n"}
		case 4:
			x = api.Step{Kind: api.SSave + r.Intn(3)}
		}
		l = append(l, x)
	}
	return l
}

// P35.4, and W2: a line is done only where an Enter is typed.
func TestAsItOught(t *testing.T) {
	r := rand.New(rand.NewSource(38))
	accepts := 0
	for i := range 600 {
		f := conf(i%2 == 0)
		f.W, f.H, f.Prompt = 1+r.Intn(14), 1+r.Intn(4), []string{"", "$ ", "\x1b[31m", "日", "\xC3\r"}[r.Intn(5)]
		w := watch(t, f, api.Crash{At: r.Intn(9), Keep: []byte{200}})
		steps := someSteps(r)
		var told []api.Told
		var items []api.Item
		for _, x := range steps {
			did, ok := w.Do(x)
			if !ok {
				t.Fatalf("%v, behind %v", x, steps)
			}
			first := len(items)
			items = append(items, itemsOf(x)...)
			all := 0
			for _, at := range frame.Enters(items...) {
				if at >= first {
					all++
				}
			}
			if happened(did.Events, api.VAccept) > all {
				t.Fatalf("%v: %v", x, did.Events)
			}
			told = append(told, did)
		}
		accepts += w.Verdict().Accepts
		if Against(steps, told) != -1 || w.Verdict().Steps != len(steps) {
			t.Fatal(w.Verdict())
		}
	}
	if accepts < 500 {
		t.Error("too few lines were done", accepts)
	}
}

// The items that a watch keeps tell the same Enters as all items would.
func TestTail(t *testing.T) {
	r := rand.New(rand.NewSource(39))
	parts := []string{"\x1b[200~", "\x1b[201~", "\x1b", "[", "20", "0~", "1~", "\r", "a", "|"}
	for range 3000 {
		w := &Watch{}
		var all []api.Item
		for range 12 {
			text := parts[r.Intn(len(parts))]
			x := bytes(text)
			if text == "|" {
				x = api.Step{Kind: api.STick}
			}
			first := len(all)
			all = append(all, itemsOf(x)...)
			want := 0
			for _, at := range frame.Enters(all...) {
				if at >= first {
					want++
				}
			}
			if got := w.layer()(x); got != want {
				t.Fatalf("%d Enters, not %d", got, want)
			}
		}
	}
}

// A step too great is not done: nothing of it comes.
func TestTooGreat(t *testing.T) {
	w := watch(t, conf(false))
	great := bytes("\x1b[200~" + strings.Repeat("x", api.MaxText))
	a, _ := w.Do(great)
	b, ok := w.Do(bytes("a\r"))
	if a.E != api.ErrBig || !ok || w.Verdict().Accepts != 1 || Against([]api.Step{great, bytes("a\r")}, []api.Told{a, b}) != -1 {
		t.Error(w.Verdict())
	}
}
