package whole

import (
	"math/rand"
	"slices"
	"strings"
	"testing"

	"dactyl/api"
	"dactyl/editor"
	"dactyl/emit"
	"dactyl/event"
	"dactyl/frame"
	"dactyl/grid"
	"dactyl/port"
	"dactyl/replay"
	"dactyl/sign"
	"dactyl/store"
	"dactyl/tape"
	"dactyl/vfs"
	"dactyl/watch"
)

// parts are bytes that are often keys.
var parts = []string{"a", "b", " ", "é", "日", "а", "\xC3", "\xA9", "\u202e", "\x1b[200~x\ry\x1b[31m\x1b[201~", "\x1b[200~z\x1b[201~", "\x1b[200~", "\x1b[201~", "\x1b[20", "0~", "\r", "\r", "\n", "\x1b", "\x1b[A", "\x1b[B", "\x1b[C", "\x1b[D", "\x1b[3~", "\x12", "\x11", "\x16", "\t", "\x0b", "\x19", "\x1by", "\x17", "\x0c", "\x03", "\x04", "\x7f", "\x01", "\x05", "\x1f", "\x1b1", "\x1b-", "\x1bu", "\x1bt", "\x14", "k", "j", "/", "d", "w", "2", "i", "A", "p", "r", "f", "\x80", "\x1b]0;x\a", "\x9b2J"}

// someScript tells a script of many steps.
func someScript(r *rand.Rand, steps int) api.Script {
	f := conf()
	f.W, f.H, f.Vi = 1+r.Intn(24), 1+r.Intn(5), r.Intn(2) == 0
	f.Prompt = []string{"", "$ ", "\x1b[31m$ ", "日", "\xC3\r\n", "a\x00\u202e"}[r.Intn(6)]
	s := api.Script{Conf: f}
	for range r.Intn(4) {
		s.Crashes = append(s.Crashes, api.Crash{At: r.Intn(12), Keep: []byte{byte(r.Intn(256)), byte(r.Intn(256))}})
	}
	for range steps {
		var text strings.Builder
		for range 1 + r.Intn(4) {
			text.WriteString(parts[r.Intn(len(parts))])
		}
		x := api.Step{Text: text.String()}
		switch r.Intn(14) {
		case 0, 1:
			x = api.Step{Kind: api.STick}
		case 2:
			x = api.Step{Kind: api.SResize, N: r.Intn(25), M: r.Intn(6)}
		case 3:
			x = api.Step{Kind: api.SOffer, L: []string{"ab", "a\r", "b日\x1b[2J", "ba", "é\n"}[r.Intn(5):]}
		case 4:
			x = api.Step{Kind: api.SLoad, N: 1, Text: "a\\u00000D\n\xFF\x1b[2J\n\\u00D800\nab\n"}
		case 5:
			x = api.Step{Kind: []int{api.SSave, api.SPower, api.SLoad}[r.Intn(3)]}
		}
		s.Steps = append(s.Steps, x)
	}
	return s
}

// sent tells the items that bytes are.
func sent(text string) []api.Item {
	var l []api.Item
	for i := range len(text) {
		l = append(l, api.Item{B: text[i]})
	}
	return l
}

// W1, W2, W4: every step of every script is as it ought to be.
func TestWatched(t *testing.T) {
	r := rand.New(rand.NewSource(51))
	done := 0
	for range 1500 {
		s := someScript(r, 30)
		w, e := watch.New(s.Conf, s.Crashes...)
		if e != api.OK {
			t.Fatal(e)
		}
		for _, x := range s.Steps {
			if _, ok := w.Do(x); !ok {
				text, _ := tape.Text(s)
				t.Fatalf("%v of %s", w.Verdict(), text)
			}
		}
		done += w.Verdict().Accepts
	}
	if done < 1000 {
		t.Error("too few lines were done:", done)
	}
}

// W1, W4: a terminal that is told of nothing but what is sent shows what the editor sent last.
func TestShown(t *testing.T) {
	r := rand.New(rand.NewSource(52))
	for range 500 {
		s := someScript(r, 20)
		e, out, _ := editor.New(s.Conf, vfs.New(s.Crashes...))
		g, _ := grid.New(s.Conf.W, s.Conf.H)
		g.Write(out)
		for _, x := range s.Steps {
			told := e.Do(x)
			if x.Kind == api.SResize && told.E == api.OK {
				g.Resize(x.N, x.M)
			}
			if !emit.Clean(told.Out) || g.Write(told.Out) != api.OK || !port.Same(g.Screen(), e.Screen()) {
				t.Fatalf("%q", told.Out)
			}
		}
	}
}

// accepts counts lines that were done.
func accepts(l []api.Event) int {
	n := 0
	for _, v := range l {
		if v.Kind == api.VAccept {
			n++
		}
	}
	return n
}

// pastedEnd tells whether a line end among signs was pasted.
func pastedEnd(l []api.Sign) bool {
	return slices.ContainsFunc(l, func(s api.Sign) bool { return s.L == api.LPaste && (s.V == 10 || s.V == 13) })
}

// W2: byte by byte, a line is done just where the words say. Ahead of each Enter a tick comes, so that nothing waits that could be a key of its own.
func TestEnters(t *testing.T) {
	r := rand.New(rand.NewSource(53))
	done, held := 0, 0
	for range 1500 {
		s := replay.Cut(someScript(r, 30), 1)
		e, _, _ := editor.New(s.Conf, vfs.New(s.Crashes...))
		var items []api.Item
		for _, x := range s.Steps {
			enter := x.Kind == api.SBytes && (x.Text == "\r" || x.Text == "\n")
			if enter {
				items = append(items, api.Item{Tick: true})
				if accepts(e.Do(api.Step{Kind: api.STick}).Events) > 0 {
					t.Fatal("a tick ends a line")
				}
			}
			mode, line := e.Core().Mode(), e.Core().Line()
			switch x.Kind {
			case api.SBytes:
				items = append(items, sent(x.Text)...)
			case api.STick:
				items = append(items, api.Item{Tick: true})
			}
			typed := enter && slices.Contains(frame.Enters(items...), len(items)-1)
			want := 0
			if typed && (mode == api.MSure || (mode == api.MInsert || mode == api.MCommand) && !pastedEnd(line.S)) {
				want = 1
			}
			got := accepts(e.Do(x).Events)
			// Letters that are commands may wait for a sign: an Enter is refused then.
			if waits := mode == api.MCommand && got == 0; got != want && !waits {
				t.Fatalf("%q in mode %d: %d accepts, not %d", x.Text, mode, got, want)
			}
			done += got
			if typed && want == 0 && mode == api.MInsert {
				held++
			}
		}
	}
	if done < 1000 || held < 50 {
		t.Error("too few lines were done, or held:", done, held)
	}
}

func says(h [][]api.Sign) string {
	var l []string
	for _, x := range h {
		l = append(l, sign.Text(x))
	}
	return strings.Join(l, "\x00")
}

// W5: wherever the power goes in saving, the history is whole, the old one, or the new one; and loaded as it was.
func TestAtOnce(t *testing.T) {
	r := rand.New(rand.NewSource(54))
	step := func(kind int) api.Step { return api.Step{Kind: kind} }
	for range 3000 {
		keep := make([]byte, r.Intn(4))
		for i := range keep {
			keep[i] = []byte{0, 1, 3, 127, 128, 200, 254, 255}[r.Intn(8)]
		}
		at := r.Intn(9)
		d := vfs.New(api.Crash{At: at, Keep: keep})
		e, _, _ := editor.New(conf(), d)
		lines := func(n int) {
			for range n {
				e.Do(api.Step{Text: []string{"one\r", "t\x1b[200~w\\\x1b\x1b[201~o\r", "\x11\x01é\xC3\r", "three\r"}[r.Intn(4)]})
			}
		}
		saved := ""
		for range 2 {
			lines(1 + r.Intn(3))
			now := says(e.Core().Hist())
			told := e.Do(step(api.SSave))
			if told.E == api.OK {
				saved = now
				continue
			}
			e.Do(step(api.SPower))
			other, _, _ := editor.New(conf(), d)
			if told := other.Do(step(api.SLoad)); told.E != api.OK {
				t.Fatal(told.E)
			}
			got := says(other.Core().Hist())
			if got != saved && got != now {
				t.Fatalf("crash at %d, %v: %q, not %q or %q", at, keep, got, saved, now)
			}
			saved = got
		}
		h, err := store.Load(d, 6, 40)
		if err != api.OK || says(h.All()) != saved {
			t.Fatalf("crash at %d: %q, not %q", at, says(h.All()), saved)
		}
		for _, l := range h.All() {
			if !sign.Same(l, sign.With(l, api.LHist)) {
				t.Fatal("labels")
			}
		}
	}
}

// W5: whatever bytes a file has, it is loaded, within its bounds.
func TestAnyFile(t *testing.T) {
	r := rand.New(rand.NewSource(55))
	for range 3000 {
		b := make([]byte, r.Intn(200))
		for i := range b {
			b[i] = []byte("\\u0001DFa\n\r\xC3\xA9\xFF\x1b")[r.Intn(14)]
		}
		e, _, _ := editor.New(conf(), vfs.New())
		if told := e.Do(api.Step{Kind: api.SLoad, N: 1, Text: string(b)}); told.E != api.OK || told.Out != "" {
			t.Fatalf("%q: %d", b, told.E)
		}
		h := e.Core().Hist()
		for _, l := range h {
			if len(l) == 0 || len(l) > 40 || sign.Check(l) != api.OK || !sign.Same(l, sign.With(l, api.LHist)) {
				t.Fatalf("%q: %v", b, l)
			}
		}
		if len(h) > 6 {
			t.Fatalf("%q: %d entries", b, len(h))
		}
	}
}

// W6: a text alone tells what is played, however its bytes are cut.
func TestScripts(t *testing.T) {
	r := rand.New(rand.NewSource(56))
	happened := func(s api.Script) []api.Event {
		_, told, e := replay.Play(s)
		if e != api.OK {
			t.Fatal(e)
		}
		var l []api.Event
		for _, x := range told {
			l = append(l, x.Events...)
		}
		return l
	}
	for range 500 {
		s := someScript(r, 15)
		text, e := tape.Text(s)
		back, f := tape.Parse(text)
		if e != api.OK || f != api.OK || !tape.Same(s, back) {
			t.Fatalf("%q: %d, %d", text, e, f)
		}
		one, _ := replay.Run(text)
		two, _ := replay.Run(text)
		if one != two || one == "" {
			t.Fatalf("%q tells another log", text)
		}
		if !event.Same(happened(s), happened(replay.Cut(s, 1+r.Intn(4), 1+r.Intn(2)))) {
			t.Fatalf("%q, cut", text)
		}
	}
}
