package frame

import (
	"math/rand"
	"slices"
	"strings"
	"testing"

	"dactyl/api"
	"dactyl/input"
)

// items reads a text as items; a bar is a tick.
func items(s string) []api.Item {
	var l []api.Item
	for _, b := range []byte(s) {
		if b == '|' {
			l = append(l, api.Item{Tick: true, B: 13})
		} else {
			l = append(l, api.Item{B: b})
		}
	}
	return l
}

// marks tells which items are inside: x; o: not.
func marks(s string) string {
	var b strings.Builder
	for _, in := range Inside(items(s)...) {
		if in {
			b.WriteByte('x')
		} else {
			b.WriteByte('o')
		}
	}
	return b.String()
}

// P15.1
func TestInsideOpen(t *testing.T) {
	for s, want := range map[string]string{
		"": "", "a|\r": "ooo", "\x1b[200~a": "oooooox", "\x1b[200~a\x1b[201~b": "ooooooxxxxxxxo", "\x1b[200|~a": "oooooooo", "\x1b[20|0~a": "oooooooo",
		"\x1b[200~\x1b|[201|~|": "ooooooxxxxxxxxo", "\x1b\x1b[200~a": "ooooooox", "\x1b[20\x1b[200~a": "oooooooooox", "\x1b[200~\x1b[20\x1b[201~a": "ooooooxxxxxxxxxxo",
		"\x1b[201~a": "ooooooo", "\x1b[200~\x1b[200~\x1b[201~a": "ooooooxxxxxxxxxxxxo", "\x1b[200~\x1b[201~\x1b[200~a": "ooooooxxxxxxoooooox", "\x1b[0200~a": "oooooooo", "\x1b[20x0~a": "oooooooo", "\x1b[200~\x1b[20x1~a": "ooooooxxxxxxxx",
	} {
		if got := marks(s); got != want {
			t.Errorf("%q: %s, not %s", s, got, want)
		}
		if got := Open(items(s)...); got != (strings.Count(s, "\x1b[200~") > 0 && strings.HasSuffix(want, "x")) {
			t.Errorf("Open of %q: %t", s, got)
		}
	}
	if !Open(items("\x1b[200~")...) || Open(items("\x1b[200~\x1b[201~")...) || Open() {
		t.Error("Open")
	}
	if len(Inside()) != 0 {
		t.Error("of none")
	}
}

// P15.2
func TestEntersPastes(t *testing.T) {
	l := items("\r|\n\x1b[200~\r\x1b[201~\n\x1b[200~\x1b|[201~\x1b[200~\r")
	if got := Enters(l...); !slices.Equal(got, []int{0, 2, 16}) {
		t.Errorf("Enters: %v", got)
	}
	if got := Pastes(l...); !slices.Equal(got, [][2]int{{9, 15}, {23, 29}}) {
		t.Errorf("Pastes: %v", got)
	}
	if got := Enters(items("\x1b[200~\r")...); len(got) != 0 {
		t.Errorf("the example: %v", got)
	}
	if len(Enters()) != 0 || len(Pastes()) != 0 {
		t.Error("of none")
	}
}

// P15.3
func TestTheyAgree(t *testing.T) {
	r := rand.New(rand.NewSource(21))
	parts := []string{"\x1b", "[", "O", "200~", "201~", "\x1b[200~", "\x1b[200~", "\x1b[201~", "\x1b[201", "\x1b[200", "~", "|", "\xE6", "a", "\r", "\n", "\x1b[", "2", "0"}
	enters, pastes := 0, 0
	for range 20000 {
		var b strings.Builder
		for range r.Intn(14) {
			b.WriteString(parts[r.Intn(len(parts))])
		}
		l := items(b.String())
		p, _ := input.New(100)
		inside, isEnter, isEnd := Inside(l...), map[int]bool{}, map[int]bool{}
		for _, at := range Enters(l...) {
			isEnter[at] = true
		}
		for _, at := range Pastes(l...) {
			isEnd[at[1]] = true
			if !inside[at[0]] || !inside[at[1]] || at[0] > 0 && inside[at[0]-1] && !isEnd[at[0]-1] {
				t.Fatalf("%q: %v", b.String(), at)
			}
		}
		for i, x := range l {
			enter, end := false, false
			for _, k := range p.Do(x) {
				enter = enter || k.Kind == api.KEnter
				end = end || k.Kind == api.KPaste
			}
			if enter != isEnter[i] || end != isEnd[i] || enter && inside[i] {
				t.Fatalf("%q at %d: %t, %t", b.String(), i, enter, end)
			}
			if p.Pasting() != Open(l[:i+1]...) || p.Pasting() != (inside[i] && !isEnd[i] || strings.HasSuffix(b.String()[:i+1], begin) && !inside[i]) {
				t.Fatalf("%q at %d: pasting", b.String(), i)
			}
			if enter {
				enters++
			}
			if end {
				pastes++
			}
		}
	}
	if enters < 100 || pastes < 100 {
		t.Error("too few of both were tried")
	}
}
