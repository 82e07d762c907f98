package kill

import (
	"math"
	"slices"
	"strings"
	"testing"

	"dactyl/api"
	"dactyl/sign"
)

func ring(t *testing.T, most int, texts ...string) *Ring {
	t.Helper()
	r, e := New(most)
	if e != api.OK {
		t.Fatal(e)
	}
	for _, s := range texts {
		push(t, r, s, 0)
	}
	return r
}

func push(t *testing.T, r *Ring, s string, how int) {
	t.Helper()
	if e := r.Push(sign.Of(0, s), how); e != api.OK {
		t.Fatalf("Push %q, %d: %d", s, how, e)
	}
}

func all(r *Ring) string {
	var l []string
	for _, x := range r.All() {
		l = append(l, sign.Text(x))
	}
	return strings.Join(l, " ")
}

// P18.1
func TestNew(t *testing.T) {
	for _, most := range []int{0, -1, api.MaxKill + 1, math.MinInt, math.MaxInt} {
		if r, e := New(most); r != nil || e != api.ErrRange {
			t.Errorf("New of %d: %d", most, e)
		}
	}
	for _, most := range []int{1, api.MaxKill} {
		if r := ring(t, most); r.Len() != 0 || len(r.Now()) != 0 || len(r.All()) != 0 || r.Turn() {
			t.Error("at first")
		}
	}
	var r *Ring
	if r.Len() != 0 || len(r.Now()) != 0 || len(r.All()) != 0 || r.Turn() || r.Push(nil, 0) != api.ErrNil || r.Push(nil, 9) != api.ErrNil {
		t.Error("of nil")
	}
}

// P18.2
func TestPush(t *testing.T) {
	r := ring(t, 3)
	push(t, r, "a", 1)
	push(t, r, "b", 1)
	if all(r) != "ab" {
		t.Error("behind", all(r))
	}
	push(t, r, "c", 2)
	if all(r) != "cab" || sign.Text(r.Now()) != "cab" {
		t.Error("ahead", all(r))
	}
	push(t, r, "d", 0)
	push(t, r, "e", 0)
	r.Turn()
	push(t, r, "", 0)
	if sign.Text(r.Now()) != "d" || r.Len() != 3 {
		t.Error("of no signs nothing is done")
	}
	push(t, r, "f", 0)
	if all(r) != "d e f" || sign.Text(r.Now()) != "f" || r.Len() != 3 {
		t.Error("the oldest is lost", all(r))
	}
	r.Turn()
	push(t, r, "g", 1)
	if all(r) != "d e fg" || sign.Text(r.Now()) != "fg" {
		t.Error("behind the newest, wherever the hand is", all(r))
	}
	one := ring(t, 1, "a", "b")
	push(t, one, "c", 2)
	if all(one) != "cb" || !one.Turn() || sign.Text(one.Now()) != "cb" {
		t.Error("a ring of one", all(one))
	}
	first := ring(t, 2)
	push(t, first, "x", 2)
	if all(first) != "x" {
		t.Error("ahead of none")
	}
}

// P18.2
func TestRefused(t *testing.T) {
	r := ring(t, 2, "a")
	for _, how := range []int{-1, 3, math.MinInt, math.MaxInt} {
		if r.Push(sign.Of(0, "b"), how) != api.ErrArg || r.Push(nil, how) != api.ErrArg {
			t.Errorf("how %d", how)
		}
	}
	if r.Push([]api.Sign{{V: 'b'}, {V: -1}}, 0) != api.ErrArg || r.Push([]api.Sign{{L: 6}}, 1) != api.ErrArg {
		t.Error("signs that may not be")
	}
	great := make([]api.Sign, api.MaxBuf+1)
	if r.Push(great, 0) != api.ErrBig || r.Push(great[:api.MaxBuf], 1) != api.ErrBig || r.Push(great[:api.MaxBuf], 2) != api.ErrBig {
		t.Error("too many")
	}
	if all(r) != "a" || sign.Text(r.Now()) != "a" {
		t.Error("something was changed")
	}
	if r.Push(great[:api.MaxBuf-1], 2) != api.OK || len(r.Now()) != api.MaxBuf || r.Push(great[:api.MaxBuf], 0) != api.OK || r.Push(great[:1], 1) != api.ErrBig {
		t.Error("as many as can be")
	}
}

// P18.3
func TestTurn(t *testing.T) {
	r := ring(t, 3, "a", "b", "c", "d")
	var seen []string
	for range 2 * r.Len() {
		if !r.Turn() {
			t.Fatal("false")
		}
		seen = append(seen, sign.Text(r.Now()))
	}
	if !slices.Equal(seen, []string{"c", "b", "d", "c", "b", "d"}) {
		t.Errorf("%v", seen)
	}
}

// R3
func TestOwn(t *testing.T) {
	l := sign.Of(0, "ab")
	r := ring(t, 3)
	r.Push(l, 0)
	l[0].V = 'x'
	r.Now()[0].V = 'y'
	r.All()[0][0].V = 'z'
	if all(r) != "ab" {
		t.Error(all(r))
	}
}
