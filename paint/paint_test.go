package paint

import (
	"math/rand"
	"testing"

	"dactyl/api"
	"dactyl/emit"
	"dactyl/grid"
	"dactyl/port"
	"dactyl/show"
	"dactyl/sign"
)

func screen(t *testing.T, text string, at, w, h int) api.Screen {
	t.Helper()
	s, e := port.Screen(nil, sign.Of(0, text), at, w, h)
	if e != api.OK {
		t.Fatal(e)
	}
	return s
}

func text(s string) api.Out      { return api.Out{Text: s} }
func move(n, m int) api.Out      { return api.Out{Kind: api.OMove, N: n, M: m} }
func looks(n int) api.Out        { return api.Out{Kind: api.OLooks, N: n} }
func rest() api.Out              { return api.Out{Kind: api.ORest} }
func out(l ...api.Out) []api.Out { return l }

// P12.1
func TestFrom(t *testing.T) {
	for _, c := range []struct {
		a    string
		aAt  int
		b    string
		bAt  int
		want []api.Out
	}{
		{"ab", 2, "ac", 2, out(move(1, 2), text("c"), move(1, 3))},
		{"ab", 2, "ab", 2, nil},
		{"ab", 2, "ab", 1, out(move(1, 2))},
		{"ab", 2, "a", 1, out(move(1, 2), rest(), move(1, 2))},
		{"ab", 2, "", 0, out(move(1, 1), rest(), move(1, 1))},
		{"", 0, "ab", 2, out(move(1, 1), text("ab"), move(1, 3))},
		{"abc", 3, "xbz", 3, out(move(1, 1), text("xbz"), move(1, 4))},
		{"abcd", 4, "xb", 2, out(move(1, 1), text("xb"), rest(), move(1, 3))},
		{"a\x1bb", 3, "a\x07b", 3, out(move(1, 2), looks(1), text("^G"), looks(0), move(1, 5))},
		{"日b", 2, "本b", 2, out(move(1, 1), text("本"), move(1, 4))},
		{"ab", 2, "日", 1, out(move(1, 1), text("日"), move(1, 3))},
		{"日", 1, "ab", 2, out(move(1, 1), text("ab"), move(1, 3))},
		{"", 0, "а\x01a", 0, out(move(1, 1), looks(4), text("а"), looks(1), text("^A"), looks(0), text("a"), move(1, 1))},
		{"abcdefgh", 0, "abcdefxyz", 0, out(move(1, 7), text("xy"), move(2, 1), text("z"), move(1, 1))},
		{"a", 1, "^A", 2, out(move(1, 1), text("^A"), move(1, 3))},
	} {
		got, e := From(screen(t, c.a, c.aAt, 8, 2), screen(t, c.b, c.bAt, 8, 2))
		if e != api.OK || !emit.Same(got, c.want) {
			t.Errorf("from %q to %q: %v, %d", c.a, c.b, got, e)
		}
	}
	// What looks the same, and is of another sign, is sent.
	a, b := screen(t, "^A", 2, 8, 2), screen(t, "^A", 2, 8, 2)
	b.Rows[0][1].K = 1
	if got, _ := From(a, b); !emit.Same(got, out(move(1, 2), text("A"), move(1, 3))) {
		t.Errorf("another K: %v", got)
	}
}

// P12.1
func TestFromLooksGoOn(t *testing.T) {
	a, _ := port.Screen(nil, nil, 0, 3, 2)
	b, _ := port.Screen(nil, sign.Of(api.LPaste, "abcde"), 5, 3, 2)
	if got, _ := From(a, b); !emit.Same(got, out(move(1, 1), looks(2), text("abc"), move(2, 1), text("de"), looks(0), move(2, 3))) {
		t.Errorf("%v", got)
	}
}

// P12.1, P12.2
func TestRefuses(t *testing.T) {
	good, other := screen(t, "ab", 0, 8, 2), screen(t, "ab", 0, 8, 3)
	bad := port.Copy(good)
	bad.Rows[0][0].V = 27
	for _, c := range [][2]api.Screen{{good, bad}, {bad, good}, {api.Screen{}, good}, {bad, other}} {
		if l, e := From(c[0], c[1]); e != api.ErrForm || l != nil {
			t.Errorf("a screen that may not be: %d", e)
		}
	}
	if l, e := From(good, other); e != api.ErrArg || l != nil {
		t.Errorf("other sides: %d", e)
	}
	if l, e := From(good, screen(t, "ab", 0, 7, 2)); e != api.ErrArg || l != nil {
		t.Errorf("other sides: %d", e)
	}
	if l, e := All(bad); e != api.ErrForm || l != nil {
		t.Errorf("All: %d", e)
	}
}

// P12.2
func TestAllCols(t *testing.T) {
	erase := api.Out{Kind: api.OErase}
	if l, _ := All(screen(t, "", 0, 3, 2)); !emit.Same(l, out(erase, move(1, 1))) {
		t.Errorf("blanks: %v", l)
	}
	if l, _ := All(screen(t, "ab", 1, 8, 2)); !emit.Same(l, out(erase, move(1, 1), text("ab"), move(1, 2))) {
		t.Errorf("ab: %v", l)
	}
	blank := screen(t, "", 0, 3, 2)
	blank.Row, blank.Col = 1, 2
	if l, _ := All(blank); !emit.Same(l, out(erase, move(2, 3))) {
		t.Errorf("blanks, another cursor: %v", l)
	}
	if n := Cols(out(text("a日"), move(1, 1), text("а"))); n != 4 {
		t.Errorf("Cols: %d", n)
	}
	if Cols(nil) != 0 {
		t.Error("Cols of none")
	}
}

func some(r *rand.Rand, values []int) []api.Sign {
	l := make([]api.Sign, r.Intn(12))
	for i := range l {
		l[i] = api.Sign{V: values[r.Intn(len(values))], L: r.Intn(6)}
	}
	return l
}

// P12.3
func TestItShows(t *testing.T) {
	r := rand.New(rand.NewSource(17))
	values := []int{'a', 'b', '日', '本', 27, 0x430, 0x202E, api.Stray + 200, '^'}
	for range 3000 {
		w, h := 1+r.Intn(9), 1+r.Intn(4)
		g, _ := grid.New(w, h)
		var last api.Screen
		for i := range 4 {
			line := some(r, values)
			s, _ := port.Screen(some(r, values)[:0], line, r.Intn(len(line)+1), w, h)
			var sent []api.Out
			if i == 0 {
				sent, _ = All(s)
			} else {
				sent, _ = From(last, s)
				if same := len(sent) == 0; same != (last.Row == s.Row && last.Col == s.Col && equal(last, s)) {
					t.Fatalf("from %v to %v: %v", last, s, sent)
				}
			}
			if e := g.Do(sent...); e != api.OK || !port.Same(g.Screen(), s) {
				t.Fatalf("%v shows %v, not %v", sent, g.Screen(), s)
			}
			last = s
		}
	}
}

func equal(a, b api.Screen) bool {
	for i, row := range a.Rows {
		for j, c := range row {
			d := b.Rows[i][j]
			if c.V != d.V || c.A != d.A || c.Of != d.Of || c.K != d.K {
				return false
			}
		}
	}
	return true
}

func turned(l []api.Sign, v, w int) []api.Sign {
	other := make([]api.Sign, len(l))
	for i, s := range l {
		other[i] = s
		if s.V == v {
			other[i].V = w
		}
	}
	return other
}

// P12.4
func TestBlind(t *testing.T) {
	r := rand.New(rand.NewSource(18))
	for _, twins := range [][2]int{{0x202E, 0x2066}, {'日', '本'}, {7, 8}, {'a', 'z'}, {0x430, 0x440}, {0x200B, 0x200C}, {api.Stray + 200, api.Stray + 201}} {
		v, w := twins[0], twins[1]
		if !show.Twin(v, w) {
			t.Fatalf("%X and %X are none", v, w)
		}
		for range 1000 {
			values := []int{v, v, 'b', '^', '<', 'U', 0x4E02, 27}
			width, height := 1+r.Intn(12), 1+r.Intn(3)
			one, two := some(r, values), some(r, values)
			at, to := r.Intn(len(one)+1), r.Intn(len(two)+1)
			sent := func(w int) []api.Out {
				a, _ := port.Screen(nil, turned(one, v, w), at, width, height)
				b, _ := port.Screen(nil, turned(two, v, w), to, width, height)
				l, _ := From(a, b)
				return emit.Skeleton(l)
			}
			if !emit.Same(sent(v), sent(w)) {
				t.Fatalf("%v to %v in %d, %d: %v, %v", one, two, width, height, sent(v), sent(w))
			}
		}
	}
}
