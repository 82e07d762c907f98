package grid

import (
	"math"
	"math/rand"
	"slices"
	"strings"
	"testing"

	"dactyl/api"
	"dactyl/emit"
	"dactyl/port"
	"dactyl/view"
)

func terminal(t *testing.T, w, h int, l ...api.Out) *Grid {
	t.Helper()
	g, e := New(w, h)
	if e != api.OK {
		t.Fatal(e)
	}
	if e := g.Do(l...); e != api.OK {
		t.Fatal(e)
	}
	return g
}

// picture tells a screen's rows; a right half is a minus, a blank a point.
func picture(s api.Screen) string {
	var rows []string
	for _, row := range s.Rows {
		var b strings.Builder
		for _, c := range row {
			switch c.V {
			case 0:
				b.WriteByte('.')
			case -1:
				b.WriteByte('-')
			default:
				b.WriteString(view.Text([]api.Cell{c}))
			}
		}
		rows = append(rows, b.String())
	}
	return strings.Join(rows, "|")
}

func text(s string) api.Out   { return api.Out{Text: s} }
func move(n, m int) api.Out   { return api.Out{Kind: api.OMove, N: n, M: m} }
func kind(k int) api.Out      { return api.Out{Kind: k} }
func number(k, n int) api.Out { return api.Out{Kind: k, N: n} }

// P11.1
func TestNew(t *testing.T) {
	for _, c := range [][2]int{{0, 1}, {1, 0}, {1001, 1}, {1, 1001}, {math.MinInt, math.MaxInt}} {
		if g, e := New(c[0], c[1]); g != nil || e != api.ErrRange {
			t.Errorf("New of %v: %d", c, e)
		}
	}
	g := terminal(t, 3, 2)
	blank, _ := port.Blank(3, 2)
	if !port.Same(g.Screen(), blank) || g.Bells() != 0 || g.Framed() {
		t.Error("at first")
	}
	for _, row := range g.Screen().Rows {
		for _, c := range row {
			if c != (api.Cell{Own: -1}) {
				t.Error(c)
			}
		}
	}
	s := g.Screen()
	s.Rows[0][0].V = 'x'
	if g.Screen().Rows[0][0].V != 0 {
		t.Error("a screen of its own")
	}
}

// P11.1
func TestNil(t *testing.T) {
	var g *Grid
	if g.Resize(1, 1) != api.ErrNil || g.Resize(0, 0) != api.ErrNil || g.Screen().Rows != nil || g.Bells() != 0 || g.Framed() || g.Do() != api.ErrNil || g.Do(api.Out{}) != api.ErrNil || g.Write("\x1b") != api.ErrNil {
		t.Error("of nil")
	}
}

// P11.1
func TestResize(t *testing.T) {
	g := terminal(t, 3, 2, number(api.OLooks, 3), text("ab"), kind(api.OBell), number(api.OPaste, 1))
	if e := g.Resize(0, 2); e != api.ErrRange || picture(g.Screen()) != "ab.|..." {
		t.Error("refused", e)
	}
	if e := g.Resize(2, 3); e != api.OK || picture(g.Screen()) != "..|..|.." || g.Screen().Col != 0 || g.Bells() != 1 || !g.Framed() {
		t.Error("resized", e)
	}
	g.Do(text("x"))
	if g.Screen().Rows[0][0].A != 0 {
		t.Error("looks are 0 anew")
	}
}

// P11.2
func TestPieces(t *testing.T) {
	for _, c := range []struct {
		l        []api.Out
		want     string
		row, col int
	}{
		{[]api.Out{text("a日b")}, "a日-|...", 0, 2},
		{[]api.Out{text("ab"), text("日")}, "ab.|...", 0, 2},
		{[]api.Out{text("ab日c")}, "abc|...", 0, 2},
		{[]api.Out{text("abc"), text("d")}, "abc|...", 0, 2},
		{[]api.Out{text("日"), move(1, 2), text("x")}, ".x.|...", 0, 2},
		{[]api.Out{text("日"), move(1, 1), text("x")}, "x..|...", 0, 1},
		{[]api.Out{text("a日"), move(1, 1), text("本")}, "本-.|...", 0, 2},
		{[]api.Out{text("日"), move(1, 2), text("本")}, ".本-|...", 0, 2},
		{[]api.Out{text("abc"), kind(api.ORest)}, "abc|...", 0, 2},
		{[]api.Out{text("abc"), move(1, 2), kind(api.ORest)}, "a..|...", 0, 1},
		{[]api.Out{text("a日"), move(1, 3), kind(api.ORest)}, "a..|...", 0, 2},
		{[]api.Out{text("a日"), move(1, 2), kind(api.ORest)}, "a..|...", 0, 1},
		{[]api.Out{text("abc"), move(2, 2), text("x"), kind(api.OErase)}, "...|...", 1, 2},
		{[]api.Out{move(1000, 1000), text("x")}, "...|..x", 1, 2},
		{[]api.Out{text("ab"), kind(api.OCR), text("x")}, "xb.|...", 0, 1},
		{[]api.Out{text("abc"), kind(api.OCR), text("x")}, "xbc|...", 0, 1},
		{[]api.Out{text("ab"), kind(api.OLF), text("x")}, "ab.|..x", 1, 2},
		{[]api.Out{text("a"), kind(api.OLF), text("b"), kind(api.OLF), text("c")}, ".b.|..c", 1, 2},
		{[]api.Out{text("abc"), kind(api.OLF), text("x")}, "abc|...", 1, 2},
		{[]api.Out{move(1, 3), text("日")}, "...|...", 0, 2},
	} {
		g := terminal(t, 3, 2, c.l...)
		if s := g.Screen(); picture(s) != c.want || s.Row != c.row || s.Col != c.col {
			t.Errorf("%v: %s at %d, %d", c.l, picture(s), s.Row, s.Col)
		}
	}
}

// P11.2, and R2: a terminal's cells have a value, looks, and nobody, and no more.
func TestLooksBellsFrames(t *testing.T) {
	g := terminal(t, 5, 1, number(api.OLooks, 6), text("日"), number(api.OLooks, 0), text("x"), kind(api.OBell), kind(api.OBell), number(api.OPaste, 1))
	want := []api.Cell{{V: '日', A: 6, Own: -1}, {V: -1, A: 6, Own: -1}, {V: 'x', Own: -1}, {Own: -1}, {Own: -1}}
	for i, c := range g.Screen().Rows[0] {
		if c != want[i] {
			t.Errorf("cell %d: %v", i, c)
		}
	}
	if g.Bells() != 2 || !g.Framed() {
		t.Error("bells, frames")
	}
	g.Do(number(api.OPaste, 0))
	if g.Framed() {
		t.Error("not framed any more")
	}
}

// P11.2
func TestRefused(t *testing.T) {
	g := terminal(t, 3, 1, text("a"))
	if e := g.Do(text("b"), text("\x1b")); e != api.ErrArg || picture(g.Screen()) != "a.." {
		t.Error("Do", e)
	}
	if e := g.Write("b\x1b[31m"); e != api.ErrForm || picture(g.Screen()) != "a.." {
		t.Error("Write", e)
	}
	if e := g.Write("b\x1b[1;1Hc\a"); e != api.OK || picture(g.Screen()) != "cb." || g.Bells() != 1 {
		t.Error("Write", e)
	}
	if g.Do() != api.OK || g.Write("") != api.OK {
		t.Error("of none")
	}
}

// P11.2, and R2: whatever is done, a right half stands behind a wide sign, and nowhere else, no cell has an Of, or a K, and Write does what Do does.
func TestHalves(t *testing.T) {
	r := rand.New(rand.NewSource(16))
	for range 3000 {
		w, h := 1+r.Intn(5), 1+r.Intn(3)
		a, b := terminal(t, w, h), terminal(t, w, h)
		for range 12 {
			o := []api.Out{text("a"), text("日本"), text("x日"), text("а"), move(1+r.Intn(5), 1+r.Intn(6)), kind(api.OErase), kind(api.ORest), kind(api.OCR), kind(api.OLF), number(api.OLooks, r.Intn(8))}[r.Intn(10)]
			a.Do(o)
			s, _ := emit.Text(o)
			b.Write(s)
			for _, row := range a.Screen().Rows {
				for i, c := range row {
					wide := c.V == '日' || c.V == '本'
					if c.Own != -1 || c.Of != 0 || c.K != 0 {
						t.Fatalf("%v has more than a terminal's cell", c)
					}
					if wide && (i+1 == w || row[i+1].V != -1 || row[i+1].A != c.A) || c.V == -1 && (i == 0 || row[i-1].V != '日' && row[i-1].V != '本') {
						t.Fatalf("%s", picture(a.Screen()))
					}
				}
			}
		}
		if x, y := a.Screen(), b.Screen(); x.Row != y.Row || x.Col != y.Col || !slices.EqualFunc(x.Rows, y.Rows, slices.Equal) {
			t.Fatal("Write is not Do")
		}
	}
}
