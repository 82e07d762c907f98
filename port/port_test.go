package port

import (
	"math"
	"math/rand"
	"testing"

	"dactyl/api"
	"dactyl/rows"
	"dactyl/show"
	"dactyl/sign"
	"dactyl/view"
)

var someValues = []int{'a', 'b', 27, 127, 0x4E00, 0x4E01, 0x430, 0x202E, api.Stray + 200, 10}

func some(r *rand.Rand, most int) []api.Sign {
	l := make([]api.Sign, r.Intn(most))
	for i := range l {
		l[i] = api.Sign{V: someValues[r.Intn(len(someValues))], L: r.Intn(6)}
	}
	return l
}

// P9.1
func TestTop(t *testing.T) {
	for _, c := range [][4]int{
		{3, 2, 3, 0}, {4, 0, 3, 0}, {4, 1, 3, 0}, {4, 2, 3, 1}, {4, 3, 3, 1}, {10, 5, 4, 3}, {10, 5, 3, 4}, {10, 9, 4, 6}, {10, 1, 4, 0},
		{-1, 5, 3, 0}, {10, -5, 3, 0}, {10, 4, -3, 4}, {10, 20, 0, 10}, {math.MaxInt, math.MaxInt, 1, math.MaxInt - 1}, {math.MinInt, math.MinInt, math.MinInt, 0},
	} {
		if got := Top(c[0], c[1], c[2]); got != c[3] {
			t.Errorf("Top(%d, %d, %d) = %d", c[0], c[1], c[2], got)
		}
	}
}

// P9.1
func TestBlankLen(t *testing.T) {
	s, e := Blank(3, 2)
	if e != api.OK || s.W != 3 || s.H != 2 || s.Row != 0 || s.Col != 0 || len(s.Rows) != 2 {
		t.Fatalf("%v", s)
	}
	for _, row := range s.Rows {
		if len(row) != 3 || Len(row) != 0 {
			t.Errorf("%v", row)
		}
		for _, c := range row {
			if c != (api.Cell{Own: -1}) {
				t.Errorf("%v", c)
			}
		}
	}
	for _, c := range [][2]int{{0, 1}, {1, 0}, {1001, 1}, {1, 1001}, {math.MinInt, 1}, {1, math.MaxInt}} {
		if s, e := Blank(c[0], c[1]); e != api.ErrRange || s.Rows != nil || s.W != 0 {
			t.Errorf("Blank of %v: %d", c, e)
		}
	}
	if _, e := Blank(1000, 1000); e != api.OK {
		t.Error("the greatest one")
	}
	if Len(nil) != 0 || Len([]api.Cell{{V: 1}, {}, {V: 2}, {}}) != 3 || Len([]api.Cell{{V: -1}}) != 1 {
		t.Error("Len")
	}
}

// P9.2
func TestScreen(t *testing.T) {
	s, e := Screen(sign.Of(api.LPrompt, "$"), sign.Of(0, "ab"), 2, 4, 2)
	if e != api.OK || s.Row != 0 || s.Col != 3 || s.W != 4 || s.H != 2 || view.Text(s.Rows[0]) != "$ab " || view.Text(s.Rows[1]) != "    " {
		t.Errorf("the example: %v", s)
	}
	for _, c := range [][3]int{{-1, 4, 2}, {3, 4, 2}, {2, 0, 2}, {2, 4, 0}, {2, 1001, 2}, {2, 4, 1001}, {math.MaxInt, 4, 2}} {
		if s, e := Screen([]api.Sign{{V: -1}}, sign.Of(0, "ab"), c[0], c[1], c[2]); e != api.ErrRange || s.Rows != nil {
			t.Errorf("%v: %d", c, e)
		}
	}
	if _, e := Screen([]api.Sign{{V: -1}}, nil, 0, 4, 2); e != api.ErrArg {
		t.Error("a prompt that may not be", e)
	}
	if _, e := Screen(nil, []api.Sign{{L: 9}}, 0, 4, 2); e != api.ErrArg {
		t.Error("a line that may not be", e)
	}
	// Six signs in rows of two: at the end there are four rows, of which three are shown.
	s, _ = Screen(nil, sign.Of(0, "abcdef"), 6, 2, 3)
	if view.Text(s.Rows[0]) != "cd" || view.Text(s.Rows[2]) != "  " || s.Row != 2 || s.Col != 0 {
		t.Errorf("rows around the end: %v", s)
	}
	s, _ = Screen(nil, sign.Of(0, "a\x1bb"), 1, 2, 3)
	if s.Row != 0 || s.Col != 1 {
		t.Errorf("the cursor is at the first cell of a sign: %v", s)
	}
}

// P9.2, P9.4
func TestScreenIsOfRows(t *testing.T) {
	r := rand.New(rand.NewSource(12))
	for range 2000 {
		prompt, line := some(r, 4), some(r, 8)
		at, w, h := r.Intn(len(line)+1), 1+r.Intn(9), 1+r.Intn(5)
		s, e := Screen(prompt, line, at, w, h)
		if e != api.OK || w > 1 && Check(s) != api.OK {
			t.Fatalf("%v, %v, %d, %d, %d: %d", prompt, line, at, w, h, e)
		}
		cells, _ := view.Of(prompt, line)
		laid, _, _ := rows.Lay(cells, w)
		row, col := rows.Place(cells, w, view.First(cells, at))
		top := Top(len(laid), row, h)
		if s.Row != row-top || s.Col != col || s.Row < 0 || s.Row >= h {
			t.Fatalf("the cursor of %v", s)
		}
		for i := range h {
			var want []api.Cell
			if top+i < len(laid) {
				want = append(want, laid[top+i]...)
			}
			for len(want) < w {
				want = append(want, api.Cell{Own: -1})
			}
			for j, c := range s.Rows[i] {
				if c != want[j] {
					t.Fatalf("row %d of %v is not %v", i, s, want)
				}
			}
		}
		if len(laid) <= h && top != 0 {
			t.Fatal("all rows fit, and are not all shown")
		}
	}
}

// P9.3
func TestCheck(t *testing.T) {
	wide := []api.Cell{{V: 0x4E00, A: 2, Of: 7, K: 4}, {V: -1, A: 2, Of: 7, K: 5}, {}}
	good := func() api.Screen {
		s := Copy(api.Screen{W: 3, H: 2, Rows: [][]api.Cell{wide, {{V: 'a', A: 7}, {V: 0x430}, {}}}, Row: 1, Col: 2})
		return s
	}
	if Check(good()) != api.OK {
		t.Fatal("it may be")
	}
	for name, spoil := range map[string]func(s *api.Screen){
		"width 0":             func(s *api.Screen) { s.W = 0 },
		"width":               func(s *api.Screen) { s.W = 2 },
		"height":              func(s *api.Screen) { s.H = 3 },
		"height 1":            func(s *api.Screen) { s.H = 1 },
		"short row":           func(s *api.Screen) { s.Rows[1] = s.Rows[1][:2] },
		"row":                 func(s *api.Screen) { s.Row = 2 },
		"row below":           func(s *api.Screen) { s.Row = -1 },
		"column":              func(s *api.Screen) { s.Col = 3 },
		"column below":        func(s *api.Screen) { s.Col = -1 },
		"blank with looks":    func(s *api.Screen) { s.Rows[1][2].A = 1 },
		"looks":               func(s *api.Screen) { s.Rows[1][0].A = 8 },
		"looks below":         func(s *api.Screen) { s.Rows[1][0].A = -1 },
		"danger":              func(s *api.Screen) { s.Rows[1][0].V = 27 },
		"mark":                func(s *api.Screen) { s.Rows[1][0].V = 0x301 },
		"none":                func(s *api.Screen) { s.Rows[1][0].V = -2 },
		"right half alone":    func(s *api.Screen) { s.Rows[1][1].V = -1 },
		"right half first":    func(s *api.Screen) { s.Rows[1][0].V = -1 },
		"two right halves":    func(s *api.Screen) { s.Rows[0][2] = api.Cell{V: -1, A: 2, Of: 7, K: 6} },
		"no right half":       func(s *api.Screen) { s.Rows[0][1].V = 'x' },
		"other looks":         func(s *api.Screen) { s.Rows[0][1].A = 0 },
		"other sign":          func(s *api.Screen) { s.Rows[0][1].Of = 8 },
		"other place":         func(s *api.Screen) { s.Rows[0][1].K = 4 },
		"wide at the end":     func(s *api.Screen) { s.Rows[1][1].V = 'b'; s.Rows[1][2].V = 0x4E00 },
		"sign behind a blank": func(s *api.Screen) { s.Rows[1][1].V = 0; s.Rows[1][2].V = 'x' },
	} {
		s := good()
		spoil(&s)
		if Check(s) != api.ErrForm {
			t.Errorf("%s: %d", name, Check(s))
		}
	}
	if Check(api.Screen{}) != api.ErrForm || Check(api.Screen{W: 1, H: 1000000000}) != api.ErrForm {
		t.Error("of none")
	}
}

// P9.3
func TestSameCopy(t *testing.T) {
	a, _ := Screen(nil, sign.Of(0, "ab"), 1, 3, 2)
	b := Copy(a)
	if !Same(a, b) {
		t.Error("a copy is not the same")
	}
	b.Rows[0][0].Own, b.Rows[0][0].Of, b.Rows[0][0].K = 9, 9, 9
	if !Same(a, b) || a.Rows[0][0].Own == 9 {
		t.Error("Own, Of, K are not looked at")
	}
	for _, spoil := range []func(s *api.Screen){
		func(s *api.Screen) { s.W = 4 }, func(s *api.Screen) { s.H = 4 }, func(s *api.Screen) { s.Row = 1 }, func(s *api.Screen) { s.Col = 0 },
		func(s *api.Screen) { s.Rows[0][0].V = 'x' }, func(s *api.Screen) { s.Rows[1][2].A = 1 }, func(s *api.Screen) { s.Rows = s.Rows[:1] },
	} {
		c := Copy(a)
		spoil(&c)
		if Same(a, c) || Same(c, a) {
			t.Errorf("the same: %v", c)
		}
	}
}

// P9.4, and what is shown of unlike lines that fit
func TestApart(t *testing.T) {
	r := rand.New(rand.NewSource(13))
	for range 3000 {
		a, b := some(r, 4), some(r, 4)
		sa, _ := Screen(nil, a, 0, 40, 2)
		sb, _ := Screen(nil, b, 0, 40, 2)
		if !sign.Same(sign.With(a, 0), sign.With(b, 0)) && show.Same(sa.Rows[0], sb.Rows[0]) {
			t.Fatalf("%v and %v are shown alike", a, b)
		}
	}
}
