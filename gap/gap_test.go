package gap

import (
	"math"
	"math/rand"
	"slices"
	"testing"

	"dactyl/api"
	"dactyl/sign"
)

func buffer(t *testing.T, most int, text string, at int) *Gap {
	t.Helper()
	g, e := New(most)
	if e != api.OK || g.Set(sign.Of(0, text), at) != api.OK {
		t.Fatal(e)
	}
	return g
}

// P16.1
func TestNew(t *testing.T) {
	for _, most := range []int{0, -1, api.MaxBuf + 1, math.MinInt, math.MaxInt} {
		if g, e := New(most); g != nil || e != api.ErrRange {
			t.Errorf("New of %d: %d", most, e)
		}
	}
	for _, most := range []int{1, api.MaxBuf} {
		g, e := New(most)
		if e != api.OK || g.Len() != 0 || g.At() != 0 || len(g.All()) != 0 || len(g.Line().S) != 0 {
			t.Errorf("New of %d: %d", most, e)
		}
	}
	var g *Gap
	g.Move(3)
	if _, ok := g.Get(0); ok || g.Len() != 0 || g.At() != 0 || len(g.All()) != 0 || g.Line().At != 0 || len(g.Cut(1)) != 0 || len(g.Cut(-1)) != 0 {
		t.Error("of nil")
	}
	if g.Insert() != api.ErrNil || g.Insert(api.Sign{V: -1}) != api.ErrNil || g.Set(nil, 0) != api.ErrNil {
		t.Error("of nil")
	}
}

// P16.1
func TestGet(t *testing.T) {
	g := buffer(t, 9, "abc", 1)
	for i, want := range map[int]int{0: 'a', 1: 'b', 2: 'c'} {
		if s, ok := g.Get(i); !ok || s.V != want {
			t.Errorf("Get(%d) = %v, %t", i, s, ok)
		}
	}
	for _, i := range []int{-1, 3, math.MinInt, math.MaxInt} {
		if s, ok := g.Get(i); ok || s != (api.Sign{}) {
			t.Errorf("Get(%d) = %v, %t", i, s, ok)
		}
	}
	all := g.All()
	all[0].V = 'x'
	if s, _ := g.Get(0); s.V != 'a' {
		t.Error("signs of its own")
	}
}

// P16.2
func TestRefused(t *testing.T) {
	g := buffer(t, 3, "ab", 1)
	for _, bad := range [][]api.Sign{{{V: -1}}, {{V: 'a'}, {V: 'a', L: 6}}, {{V: 0xD800}, {}, {}, {}}} {
		if g.Insert(bad...) != api.ErrArg || g.Set(bad, 0) != api.ErrArg {
			t.Error("signs that may not be")
		}
	}
	if g.Insert(sign.Of(0, "xy")...) != api.ErrFull || g.Set(sign.Of(0, "abcd"), 0) != api.ErrFull {
		t.Error("too many")
	}
	if sign.Text(g.All()) != "ab" || g.At() != 1 {
		t.Error("something was changed")
	}
	if g.Insert(sign.Of(0, "x")...) != api.OK || g.Insert() != api.OK || g.Insert(sign.Of(0, "y")...) != api.ErrFull {
		t.Error("the cap")
	}
}

// P16.2, P16.3: against signs in a list.
func TestAsLists(t *testing.T) {
	r := rand.New(rand.NewSource(22))
	for range 300 {
		most := 1 + r.Intn(30)
		g := buffer(t, most, "", 0)
		var l []api.Sign
		at := 0
		place := func(p int) int { return min(max(p, 0), len(l)) }
		for range 60 {
			some := make([]api.Sign, r.Intn(6))
			for i := range some {
				some[i] = api.Sign{V: 'a' + r.Intn(26), L: r.Intn(6)}
			}
			to := r.Intn(most+6) - 3
			switch r.Intn(4) {
			case 0:
				if e := g.Insert(some...); (e == api.OK) != (len(l)+len(some) <= most) {
					t.Fatal(e)
				} else if e == api.OK {
					l = slices.Insert(l, at, some...)
					at += len(some)
				}
			case 1:
				n := r.Intn(9) - 4
				a, b := min(at, place(at+n)), max(at, place(at+n))
				want := slices.Clone(l[a:b])
				if got := g.Cut(n); !slices.Equal(got, want) {
					t.Fatalf("Cut(%d) = %v, not %v", n, got, want)
				}
				l, at = slices.Delete(l, a, b), a
			case 2:
				g.Move(to)
				at = place(to)
			default:
				if e := g.Set(some, to); (e == api.OK) != (len(some) <= most) {
					t.Fatal(e)
				} else if e == api.OK {
					l = slices.Clone(some)
					at = place(to)
				}
			}
			if g.Len() != len(l) || g.At() != at || !slices.Equal(g.All(), l) || !slices.Equal(g.Line().S, l) || g.Line().At != at {
				t.Fatalf("%v at %d, not %v at %d", g.All(), g.At(), l, at)
			}
		}
	}
}

// P16.3
func TestFarPlaces(t *testing.T) {
	g := buffer(t, 9, "abc", math.MaxInt)
	if g.At() != 3 {
		t.Error("Set above")
	}
	g.Move(math.MinInt)
	if g.At() != 0 || len(g.Cut(math.MinInt)) != 0 {
		t.Error("below")
	}
	g.Move(math.MaxInt)
	if g.At() != 3 || len(g.Cut(math.MaxInt)) != 0 || sign.Text(g.Cut(math.MinInt)) != "abc" || g.Len() != 0 {
		t.Error("above")
	}
	g.Set(sign.Of(0, "abc"), math.MinInt)
	if sign.Text(g.Cut(math.MaxInt)) != "abc" {
		t.Error("all behind")
	}
}

func TestExample(t *testing.T) {
	g := buffer(t, 9, "ab", 2)
	g.Move(1)
	g.Insert(sign.Of(0, "c")...)
	if sign.Text(g.All()) != "acb" || g.At() != 2 {
		t.Error("the example")
	}
}

// The greatest buffer, filled sign by sign.
func TestFull(t *testing.T) {
	g := buffer(t, api.MaxBuf, "", 0)
	for i := range api.MaxBuf {
		if g.Insert(api.Sign{V: 'a' + i%26}) != api.OK {
			t.Fatal(i)
		}
	}
	if g.Insert(api.Sign{}) != api.ErrFull || g.Len() != api.MaxBuf {
		t.Error("full")
	}
}
