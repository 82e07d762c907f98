package rows

import (
	"math"
	"math/rand"
	"slices"
	"testing"

	"dactyl/api"
)

func cells(values ...int) []api.Cell {
	var l []api.Cell
	for i, v := range values {
		l = append(l, api.Cell{V: v, A: i % 8, Own: i, Of: v, K: i % 3})
	}
	return l
}

func some(r *rand.Rand) []api.Cell {
	var values []int
	for range r.Intn(12) {
		values = append(values, 'a')
		if r.Intn(3) == 0 {
			values = append(values, -1)
		}
	}
	return cells(values...)
}

// P8.1
func TestLayRefuses(t *testing.T) {
	for _, w := range []int{0, -1, 1001, math.MinInt, math.MaxInt} {
		if rows, places, e := Lay(cells(-1), w); e != api.ErrRange || rows != nil || places != nil {
			t.Errorf("width %d: %d", w, e)
		}
	}
	for _, c := range [][]api.Cell{cells(-1), cells(-1, 'a'), cells('a', -1, -1), cells('a', 'b', -1, -1, 'c')} {
		if rows, places, e := Lay(c, 3); e != api.ErrForm || rows != nil || places != nil {
			t.Errorf("%v: %d", c, e)
		}
	}
}

// P8.1
func TestLay(t *testing.T) {
	rows, places, e := Lay(cells('a', 'b', 'c'), 3)
	if e != api.OK || len(rows) != 2 || len(rows[0]) != 3 || len(rows[1]) != 0 || !slices.Equal(places, [][2]int{{0, 0}, {0, 1}, {0, 2}, {1, 0}}) {
		t.Errorf("the example: %v, %v", rows, places)
	}
	rows, places, e = Lay(nil, 1000)
	if e != api.OK || len(rows) != 1 || len(rows[0]) != 0 || !slices.Equal(places, [][2]int{{0, 0}}) {
		t.Errorf("no cells: %v, %v", rows, places)
	}
	rows, places, _ = Lay(cells('a', 'b', 'W', -1, 'c'), 3)
	if len(rows) != 3 || len(rows[0]) != 2 || len(rows[1]) != 3 || len(rows[2]) != 0 || !slices.Equal(places, [][2]int{{0, 0}, {0, 1}, {1, 0}, {1, 1}, {1, 2}, {2, 0}}) {
		t.Errorf("a wide one has no room: %v, %v", rows, places)
	}
	rows, places, _ = Lay(cells('a', 'W', -1), 1)
	if len(rows) != 3 || rows[1][0] != (api.Cell{V: 35, A: 1, Own: 1, Of: 'W', K: 1}) || !slices.Equal(places, [][2]int{{0, 0}, {1, 0}, {1, 0}, {2, 0}}) {
		t.Errorf("a width of 1: %v, %v", rows, places)
	}
}

// P8.2
func TestPlaceAtCount(t *testing.T) {
	r := rand.New(rand.NewSource(10))
	for range 500 {
		c, w := some(r), 1+r.Intn(5)
		rows, places, _ := Lay(c, w)
		if Count(c, w) != len(rows) {
			t.Fatal("Count")
		}
		for i := -2; i <= len(c)+2; i++ {
			row, col := Place(c, w, i)
			if want := places[min(max(i, 0), len(c))]; want != [2]int{row, col} {
				t.Fatalf("Place %d: %d, %d", i, row, col)
			}
		}
		for row := -1; row <= len(rows); row++ {
			for col := -1; col <= w; col++ {
				if got, want := At(c, w, row, col), slices.Index(places[:len(c)], [2]int{row, col}); got != want {
					t.Fatalf("At %d, %d: %d, not %d", row, col, got, want)
				}
			}
		}
	}
	for _, w := range []int{0, 1001} {
		if row, col := Place(cells('a'), w, 0); row != 0 || col != 0 || At(cells('a'), w, 0, 0) != -1 || Count(cells('a'), w) != 0 {
			t.Error("of a width that may not be")
		}
	}
	if row, col := Place(cells('a', -1, -1), 2, 2); row != 0 || col != 0 || At(cells(-1), 2, 0, 0) != -1 || Count(cells(-1), 2) != 0 {
		t.Error("of cells that may not be laid")
	}
}

// P8.3
func TestKept(t *testing.T) {
	r := rand.New(rand.NewSource(11))
	for range 1000 {
		c, w := some(r), 2+r.Intn(5)
		rows, places, _ := Lay(c, w)
		if !slices.Equal(slices.Concat(rows...), c) || len(places) != len(c)+1 {
			t.Fatalf("%v in %d", c, w)
		}
		for i, row := range rows {
			if len(row) > w {
				t.Fatalf("row %d of %v", i, rows)
			}
			if i+1 < len(rows) && len(rows[i+1]) > 0 && len(row) < w {
				if len(row) != w-1 || len(rows[i+1]) < 2 || rows[i+1][1].V != -1 {
					t.Fatalf("row %d of %v", i, rows)
				}
			}
		}
		for i, p := range places[:len(c)] {
			if rows[p[0]][p[1]] != c[i] {
				t.Fatalf("cell %d of %v", i, rows)
			}
		}
	}
}

// R3
func TestNewMemory(t *testing.T) {
	c := cells('a', 'b', 'c', 'W', -1)
	kept := slices.Clone(c)
	rows, _, _ := Lay(c, 2)
	for i := range rows {
		for j := range rows[i] {
			rows[i][j].V = 99
		}
		rows[i] = append(rows[i], api.Cell{V: 77})
	}
	if !slices.Equal(c, kept) {
		t.Error("cells that were handed in are others")
	}
}
