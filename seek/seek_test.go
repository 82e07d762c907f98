package seek

import (
	"math/rand"
	"testing"

	"dactyl/api"
	"dactyl/sign"
)

func search(texts ...string) *Seek {
	var h [][]api.Sign
	for _, s := range texts {
		h = append(h, sign.Of(api.LHist, s))
	}
	return New(h)
}

func typed(t *testing.T, s *Seek, text string) {
	t.Helper()
	for _, x := range sign.Of(0, text) {
		if !s.Type(x) {
			t.Fatal("refused")
		}
	}
}

func at(t *testing.T, s *Seek, place int, failed bool) {
	t.Helper()
	if s.Place() != place || s.Failed() != failed {
		t.Errorf("at %d, failed %t, not %d, %t", s.Place(), s.Failed(), place, failed)
	}
}

// P25.1
func TestLooks(t *testing.T) {
	s := search("ab", "b")
	if _, ok := s.Line(); ok || len(s.Pattern()) != 0 {
		t.Error("at first")
	}
	at(t, s, -1, false)
	var none *Seek
	if _, ok := none.Line(); ok || len(none.Pattern()) != 0 || none.Place() != -1 || !none.Failed() || none.Type(api.Sign{V: 'a'}) || none.Less() || none.Older() || none.Newer() {
		t.Error("of nil")
	}
}

// P25.1
func TestLine(t *testing.T) {
	s := search("xabab")
	typed(t, s, "ab")
	x, ok := s.Line()
	if !ok || sign.Text(x.S) != "xabab" || x.At != 3 || !sign.Same(x.S, sign.Of(api.LHist, "xabab")) {
		t.Error("the greatest place", x)
	}
	x.S[0].V = 'z'
	typed(t, s, "q")
	if x, ok := s.Line(); !ok || x.At != 5 || sign.Text(x.S) != "xabab" {
		t.Error("behind a search that failed", x)
	}
}

// P25.2, P25.3
func TestSearch(t *testing.T) {
	s := search("ab", "b", "ac")
	typed(t, s, "a")
	at(t, s, 2, false)
	if !s.Older() {
		t.Error("the example")
	}
	at(t, s, 0, false)
	if s.Older() {
		t.Error("nothing older")
	}
	at(t, s, 0, true)
	if !s.Newer() {
		t.Error("newer")
	}
	at(t, s, 2, false)
	if s.Newer() {
		t.Error("nothing newer")
	}
	at(t, s, 2, true)
	typed(t, s, "b")
	at(t, s, 0, false)
	if !s.Less() {
		t.Error("Less")
	}
	at(t, s, 2, false)
	typed(t, s, "z")
	at(t, s, 2, true)
	if !s.Less() || !s.Less() || s.Less() {
		t.Error("Less, to none")
	}
	at(t, s, -1, false)
	if s.Older() || s.Newer() {
		t.Error("of a pattern without signs")
	}
	at(t, s, -1, false)
	typed(t, s, "q")
	at(t, s, -1, true)
	if s.Newer() {
		t.Error("newer from none")
	}
	at(t, s, -1, true)
	if s.Older() {
		t.Error("older from none")
	}
}

// P25.2
func TestTypeRefuses(t *testing.T) {
	s := search("ab")
	if s.Type(api.Sign{V: -1}) || s.Type(api.Sign{V: 'a', L: 6}) || len(s.Pattern()) != 0 {
		t.Error("a sign that may not be")
	}
	at(t, s, -1, false)
	for range api.MaxEntry {
		if !s.Type(api.Sign{V: 'a', L: 5}) {
			t.Fatal("refused")
		}
	}
	if s.Type(api.Sign{V: 'a'}) || len(s.Pattern()) != api.MaxEntry {
		t.Error("too many")
	}
	s.Pattern()[0].V = 'x'
	if s.Pattern()[0] != (api.Sign{V: 'a', L: 5}) {
		t.Error("a pattern of its own")
	}
}

// P25.4, and the whole against a list
func TestAsList(t *testing.T) {
	r := rand.New(rand.NewSource(31))
	for range 2000 {
		var h [][]api.Sign
		for range r.Intn(5) {
			l := make([]api.Sign, r.Intn(4))
			for i := range l {
				l[i] = api.Sign{V: 'a' + r.Intn(2), L: r.Intn(6)}
			}
			h = append(h, l)
		}
		s := New(h)
		place, failed, byType := -1, false, true
		var pattern []api.Sign
		look := func(from, step int) {
			for p := from; p >= 0 && p < len(h); p += step {
				if sign.Find(h[p], pattern, 0) >= 0 {
					place, failed = p, false
					return
				}
			}
			failed = true
		}
		from := func(step int) int {
			if place < 0 {
				return len(h) - 1
			}
			return place + step
		}
		for range 12 {
			switch r.Intn(4) {
			case 0, 1:
				x := api.Sign{V: 'a' + r.Intn(2), L: r.Intn(6)}
				s.Type(x)
				pattern = append(pattern, x)
				look(from(0), -1)
			case 2:
				if s.Less() != (len(pattern) > 0) {
					t.Fatal("Less")
				}
				if len(pattern) > 0 {
					pattern, place, failed, byType = pattern[:len(pattern)-1], -1, false, true
					if len(pattern) > 0 {
						look(len(h)-1, -1)
					}
				}
			default:
				if len(pattern) == 0 {
					if s.Older() || s.Newer() {
						t.Fatal("without a pattern")
					}
					continue
				}
				byType = false
				if r.Intn(2) == 0 {
					if look(from(-1), -1); s.Older() == failed {
						t.Fatal("Older")
					}
					continue
				}
				if place < 0 {
					failed = true
				} else {
					look(place+1, 1)
				}
				if s.Newer() == failed {
					t.Fatal("Newer")
				}
			}
			if s.Place() != place || s.Failed() != failed || !sign.Same(s.Pattern(), pattern) {
				t.Fatalf("%v of %v: %d, %t, not %d, %t", pattern, h, s.Place(), s.Failed(), place, failed)
			}
			if !failed && place >= 0 && sign.Find(h[place], pattern, 0) < 0 {
				t.Fatal("the entry does not have it")
			}
			if byType && !failed && place >= 0 {
				for _, l := range h[place+1:] {
					if sign.Find(l, pattern, 0) >= 0 {
						t.Fatal("a newer one has it")
					}
				}
			}
		}
	}
}
