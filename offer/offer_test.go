package offer

import (
	"math/rand"
	"strings"
	"testing"

	"dactyl/api"
	"dactyl/line"
	"dactyl/sign"
)

func of(text string, at int) api.Line { return api.Line{S: sign.Of(api.LPaste, text), At: at} }

func cands(texts ...string) [][]api.Sign {
	var l [][]api.Sign
	for i, s := range texts {
		l = append(l, sign.Of(i%6, s))
	}
	return l
}

func says(l [][]api.Sign) string {
	var b []string
	for _, x := range l {
		b = append(b, sign.Text(x))
	}
	return strings.Join(b, " ")
}

func offer(t *testing.T, x api.Line, texts ...string) *Offer {
	t.Helper()
	o, e := New(x, cands(texts...))
	if e != api.OK {
		t.Fatal(e)
	}
	return o
}

// P26.1
func TestWord(t *testing.T) {
	for _, c := range []struct {
		text         string
		at, from, to int
	}{{"ab cd", 5, 3, 5}, {"ab cd", 4, 3, 4}, {"ab cd", 3, 3, 3}, {"ab cd", 2, 0, 2}, {"", 0, 0, 0}, {"a,b/c", 5, 0, 5}, {"a\tb", 3, 2, 3}, {"a\u00a0b", 3, 2, 3}, {"ab", 3, 0, 0}, {"ab", -1, 0, 0}} {
		if from, to := Word(of(c.text, c.at)); from != c.from || to != c.to {
			t.Errorf("%v: %d, %d", c, from, to)
		}
	}
	if from, to := Word(api.Line{S: []api.Sign{{V: 'a'}, {V: -1}}, At: 2}); from != 0 || to != 0 {
		t.Error("of a line that may not be")
	}
}

// P26.1
func TestNew(t *testing.T) {
	for _, x := range []api.Line{of("ab", 3), {S: []api.Sign{{V: -1}}}} {
		if o, e := New(x, cands("abc")); o != nil || e != api.ErrArg {
			t.Errorf("%v: %d", x, e)
		}
	}
	for _, l := range [][][]api.Sign{nil, cands("ca", "c", "dog", "Cat", ""), {{{V: 'c'}, {V: 'a'}, {V: -1}}}, {sign.Of(0, "ca"+strings.Repeat("t", api.MaxEntry-1))}} {
		if o, e := New(of("ca", 2), l); o != nil || e != api.ErrNone {
			t.Errorf("%v: %d", l, e)
		}
	}
	if _, e := New(of("ca", 2), [][]api.Sign{sign.Of(0, "ca"+strings.Repeat("t", api.MaxEntry-2))}); e != api.OK {
		t.Error("as long as can be", e)
	}
	o := offer(t, of("ca", 2), "cat", "car", "dog", "cat", "ca", "cab", "car")
	if says(o.All()) != "cat car cab" || o.Len() != 3 || o.Hand() != -1 {
		t.Error(says(o.All()))
	}
	// Two stray bytes are not the sign that their bytes would be.
	o, e := New(of("", 0), [][]api.Sign{{{V: 0xE9}}, {{V: api.Stray + 0xC3}, {V: api.Stray + 0xA9}}})
	if e != api.OK || o.Len() != 2 {
		t.Error("other values, of the same bytes", e)
	}
}

// P26.2
func TestHand(t *testing.T) {
	o := offer(t, of("x ca y", 4), "cat", "carx", "cash")
	for _, want := range []string{"x cat| y", "x carx| y", "x cash| y", "x ca| y", "x cat| y"} {
		if !o.Next() {
			t.Fatal("Next")
		}
		if x := o.Line(); sign.Text(x.S[:x.At])+"|"+sign.Text(x.S[x.At:]) != want {
			t.Errorf("%v, not %s", x, want)
		}
	}
	for _, want := range []int{-1, 2, 1, 0, -1} {
		if !o.Prev() || o.Hand() != want {
			t.Errorf("Prev: %d, not %d", o.Hand(), want)
		}
	}
	if x := offer(t, of("c", 1), "cart", "carp", "car").Line(); sign.Text(x.S) != "car" || x.At != 3 || x.S[0].L != api.LPaste || x.S[1].L != api.LCand {
		t.Error("the stem", x)
	}
	if x := offer(t, of("c", 1), "cart").Line(); sign.Text(x.S) != "cart" {
		t.Error("the stem of one", x)
	}
	for _, l := range o.All() {
		if !sign.Same(l, sign.With(l, api.LCand)) {
			t.Error("labels", l)
		}
	}
	o.All()[0][0].V = 'z'
	o.Line().S[0].V = 'z'
	if says(o.All()) != "cat carx cash" || sign.Text(o.Line().S) != "x ca y" {
		t.Error("lists of its own")
	}
	var none *Offer
	if none.Next() || none.Prev() || none.Hand() != -1 || none.Len() != 0 || len(none.All()) != 0 || len(none.Line().S) != 0 || none.Line().At != 0 {
		t.Error("of nil")
	}
}

// P26.3
func TestWordStays(t *testing.T) {
	r := rand.New(rand.NewSource(32))
	some := func(most int) []api.Sign {
		l := make([]api.Sign, r.Intn(most))
		for i := range l {
			l[i] = api.Sign{V: []int{'a', 'b', ' '}[r.Intn(3)], L: r.Intn(6)}
		}
		return l
	}
	tried := 0
	for range 5000 {
		x := api.Line{S: some(6)}
		x.At = r.Intn(len(x.S) + 1)
		var l [][]api.Sign
		for range r.Intn(6) {
			l = append(l, some(5))
		}
		o, e := New(x, l)
		if e != api.OK {
			continue
		}
		tried++
		first := o.Line()
		for range o.Len() + 1 {
			y := o.Line()
			if !line.Right(y) || !sign.Same(y.S[:x.At], x.S[:x.At]) || !sign.Same(y.S[y.At:], x.S[x.At:]) || !sign.Same(y.S[x.At:y.At], sign.With(y.S[x.At:y.At], api.LCand)) {
				t.Fatalf("%v of %v", y, x)
			}
			o.Next()
		}
		if o.Hand() != -1 || !line.Same(o.Line(), first) {
			t.Fatal("it does not come back")
		}
	}
	if tried < 500 {
		t.Error("too few were tried")
	}
}
