package hist

import (
	"math"
	"slices"
	"strings"
	"testing"

	"dactyl/api"
	"dactyl/sign"
)

func history(t *testing.T, most, long int, texts ...string) *Hist {
	t.Helper()
	h, e := New(most, long)
	if e != api.OK {
		t.Fatal(e)
	}
	for _, s := range texts {
		if e := h.Add(sign.Of(0, s)); e != api.OK {
			t.Fatal(e)
		}
	}
	return h
}

func says(h *Hist) string {
	var l []string
	for _, x := range h.All() {
		l = append(l, sign.Text(x))
		if !sign.Same(x, sign.With(x, api.LHist)) {
			l = append(l, "other labels")
		}
	}
	return strings.Join(l, " ")
}

// P23.1
func TestNew(t *testing.T) {
	for _, c := range [][2]int{{0, 1}, {api.MaxHist + 1, 1}, {1, 0}, {1, api.MaxEntry + 1}, {math.MinInt, math.MaxInt}} {
		h, e := New(c[0], c[1])
		g, f := Of(nil, c[0], c[1])
		if h != nil || e != api.ErrRange || g != nil || f != api.ErrRange {
			t.Errorf("New of %v: %d", c, e)
		}
	}
	h := history(t, api.MaxHist, api.MaxEntry)
	if h.Len() != 0 || h.Hand() != 0 || len(h.All()) != 0 {
		t.Error("at first")
	}
	var none *Hist
	none.Rest()
	_, up := none.Up(nil)
	_, down := none.Down()
	if none.Len() != 0 || none.Hand() != 0 || len(none.All()) != 0 || up || down || none.Prefix(nil, 9) != -1 || none.Add(nil) != api.ErrNil || none.Add([]api.Sign{{V: -1}}) != api.ErrNil {
		t.Error("of nil")
	}
}

// P23.1
func TestOf(t *testing.T) {
	l := [][]api.Sign{sign.Of(0, "a"), sign.Of(2, "b"), nil, {{V: -1}}, sign.Of(0, "toolong"), sign.Of(5, "a"), sign.Of(0, "c")}
	h, e := Of(l, 2, 3)
	if e != api.OK || says(h) != "a c" || h.Hand() != 2 {
		t.Error(says(h), e)
	}
	l[6][0].V = 'x'
	h.All()[0][0].V = 'x'
	if says(h) != "a c" {
		t.Error("entries of its own")
	}
}

// P23.2
func TestAdd(t *testing.T) {
	h := history(t, 3, 4, "a", "b", "a")
	if says(h) != "b a" {
		t.Error("the example", says(h))
	}
	h.Up(nil)
	h.Up(nil)
	if h.Add([]api.Sign{{V: 'x', L: 9}}) != api.ErrArg || h.Add([]api.Sign{{V: -1}, {}, {}, {}, {}}) != api.ErrArg || h.Add(sign.Of(0, "abcde")) != api.ErrBig || h.Add(nil) != api.OK || h.Hand() != 0 || says(h) != "b a" {
		t.Error("refused, and of no signs", h.Hand(), says(h))
	}
	if h.Add(sign.Of(api.LPaste, "abcd")) != api.OK || h.Hand() != 3 || says(h) != "b a abcd" {
		t.Error("added", says(h))
	}
	h.Add(sign.Of(0, "c"))
	if says(h) != "a abcd c" || h.Hand() != 3 {
		t.Error("the oldest is lost", says(h))
	}
	h.Add(sign.Of(0, "abc"))
	if says(h) != "abcd c abc" {
		t.Error("a beginning is another one", says(h))
	}
}

// P23.3, P23.5
func TestUpDown(t *testing.T) {
	h := history(t, 9, 9, "a", "b")
	typed := sign.Of(api.LPaste, "now")
	up := func(l []api.Sign, want string, ok bool) {
		t.Helper()
		if got, did := h.Up(l); did != ok || sign.Text(got) != want {
			t.Errorf("Up: %q, %t", sign.Text(got), did)
		}
	}
	down := func(want string, ok bool) {
		t.Helper()
		if got, did := h.Down(); did != ok || sign.Text(got) != want {
			t.Errorf("Down: %q, %t", sign.Text(got), did)
		}
	}
	down("", false)
	up(typed, "b", true)
	typed[0].V = 'x'
	up(sign.Of(0, "other"), "a", true)
	up(nil, "", false)
	down("b", true)
	if got, ok := h.Down(); !ok || !sign.Same(got, sign.Of(api.LPaste, "now")) {
		t.Errorf("the typed line: %v", got)
	}
	down("", false)
	up(sign.Of(0, "z"), "b", true)
	h.Rest()
	if h.Hand() != 2 {
		t.Error("Rest")
	}
	up(nil, "b", true)
	h.Add(sign.Of(0, "c"))
	if got, _ := h.Up(nil); sign.Text(got) != "c" {
		t.Error("behind Add")
	}
	if got, ok := h.Down(); !ok || len(got) != 0 {
		t.Errorf("the typed line has no signs behind Add: %v", got)
	}
	empty := history(t, 1, 1)
	if _, ok := empty.Up(sign.Of(0, "x")); ok {
		t.Error("of no entries")
	}
}

// P23.4
func TestPrefix(t *testing.T) {
	h := history(t, 9, 9, "ab", "b", "abc", "ac")
	for _, c := range []struct {
		text       string
		from, want int
	}{{"a", 4, 3}, {"a", 3, 2}, {"a", 2, 0}, {"a", 0, -1}, {"ab", 99, 2}, {"ab", math.MaxInt, 2}, {"ab", math.MinInt, -1}, {"ab", -1, -1}, {"", 2, 1}, {"", 0, -1}, {"abcd", 9, -1}, {"c", 9, -1}, {"b", 9, 1}} {
		if got := h.Prefix(sign.Of(2, c.text), c.from); got != c.want {
			t.Errorf("%v: %d", c, got)
		}
	}
}

// No two entries have the same values, none is empty, and there are never too many.
func TestKept(t *testing.T) {
	h := history(t, 5, 3)
	for i := range 200 {
		h.Add(sign.Of(i%6, strings.Repeat(string(rune('a'+i*i%7)), i%5)))
		var seen []string
		for _, l := range h.All() {
			if len(l) == 0 || len(l) > 3 || slices.Contains(seen, sign.Text(l)) {
				t.Fatal(says(h))
			}
			seen = append(seen, sign.Text(l))
		}
		if h.Len() > 5 {
			t.Fatal(says(h))
		}
	}
}
