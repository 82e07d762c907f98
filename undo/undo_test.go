package undo

import (
	"math"
	"math/rand"
	"testing"

	"dactyl/api"
	"dactyl/line"
	"dactyl/sign"
)

func of(text string, at int) api.Line {
	return api.Line{S: sign.Of(0, text), At: at}
}

func trail(t *testing.T, most int) *Trail {
	t.Helper()
	tr, e := New(most)
	if e != api.OK {
		t.Fatal(e)
	}
	return tr
}

// P19.1
func TestNew(t *testing.T) {
	for _, most := range []int{0, -1, api.MaxUndo + 1, math.MinInt, math.MaxInt} {
		if tr, e := New(most); tr != nil || e != api.ErrRange {
			t.Errorf("New of %d: %d", most, e)
		}
	}
	for _, most := range []int{1, api.MaxUndo} {
		tr := trail(t, most)
		if were, taken := tr.Steps(); were != 0 || taken != 0 || !line.Same(tr.Now(), api.Line{}) || tr.Back() || tr.Forth() {
			t.Error("at first")
		}
	}
	var tr *Trail
	if were, taken := tr.Steps(); were != 0 || taken != 0 || !line.Same(tr.Now(), api.Line{}) || tr.Back() || tr.Forth() || tr.Set(of("", 5), true) != api.ErrNil {
		t.Error("of nil")
	}
}

// P19.2
func TestRefused(t *testing.T) {
	tr := trail(t, 5)
	tr.Set(of("a", 1), false)
	for _, x := range []api.Line{of("b", 2), of("b", -1), {S: []api.Sign{{V: -1}}}, {S: []api.Sign{{L: 6}}}} {
		if tr.Set(x, false) != api.ErrArg {
			t.Errorf("%v may not be", x)
		}
	}
	if were, taken := tr.Steps(); were != 1 || taken != 0 || !line.Same(tr.Now(), of("a", 1)) {
		t.Error("something was changed")
	}
}

func TestExample(t *testing.T) {
	tr := trail(t, 5)
	tr.Set(of("a", 1), false)
	tr.Set(of("ab", 2), false)
	if !tr.Back() || !line.Same(tr.Now(), of("a", 1)) || !tr.Forth() || !line.Same(tr.Now(), of("ab", 2)) {
		t.Error("the example")
	}
}

// model is a trail of whole lines.
type model struct {
	now         api.Line
	were, taken []api.Line
}

func (m *model) set(x api.Line, join bool, most int) {
	if sign.Same(x.S, m.now.S) {
		m.now = x
		return
	}
	if !join || len(m.were) == 0 {
		m.were = append(m.were, m.now)
	}
	m.taken, m.now = nil, x
	if len(m.were) > most {
		m.were = m.were[1:]
	}
}

func (m *model) back() bool {
	n := len(m.were)
	if n == 0 {
		return false
	}
	m.taken, m.now, m.were = append(m.taken, m.now), m.were[n-1], m.were[:n-1:n-1]
	return true
}

func (m *model) forth() bool {
	n := len(m.taken)
	if n == 0 {
		return false
	}
	m.were, m.now, m.taken = append(m.were, m.now), m.taken[n-1], m.taken[:n-1:n-1]
	return true
}

// P19.2, P19.3
func TestAsLines(t *testing.T) {
	r := rand.New(rand.NewSource(25))
	for range 1000 {
		most := 1 + r.Intn(6)
		tr, m := trail(t, most), &model{}
		for range 40 {
			switch r.Intn(5) {
			case 0:
				if tr.Back() != m.back() {
					t.Fatal("Back")
				}
			case 1:
				if tr.Forth() != m.forth() {
					t.Fatal("Forth")
				}
			case 2:
				x := tr.Now()
				x.At = r.Intn(len(x.S) + 1)
				tr.Set(x, r.Intn(2) == 0)
				m.set(x, false, most)
			default:
				l := make([]api.Sign, r.Intn(4))
				for i := range l {
					l[i] = api.Sign{V: 'a' + r.Intn(2), L: r.Intn(2)}
				}
				x, join := api.Line{S: l, At: r.Intn(len(l) + 1)}, r.Intn(3) == 0
				if tr.Set(x, join) != api.OK {
					t.Fatal("Set")
				}
				m.set(line.Insert(x, nil), join, most)
				m.now.At = x.At
				for i := range l {
					l[i].V = 'z' // what was handed in is not kept
				}
			}
			were, taken := tr.Steps()
			if !line.Same(tr.Now(), m.now) || were != len(m.were) || taken != len(m.taken) {
				t.Fatalf("%v, %d, %d, not %v", tr.Now(), were, taken, m)
			}
		}
	}
}

// P19.4
func TestThereAndBack(t *testing.T) {
	tr := trail(t, 9)
	for i, s := range []string{"a", "ab", "xab", "xb", ""} {
		tr.Set(of(s, min(i, len(s))), false)
	}
	for tr.Back() {
		now := tr.Now()
		if !tr.Forth() || !tr.Back() || !line.Same(tr.Now(), now) {
			t.Fatal("Back behind a Forth")
		}
	}
	for tr.Forth() {
		now := tr.Now()
		if !tr.Back() || !tr.Forth() || !line.Same(tr.Now(), now) {
			t.Fatal("Forth behind a Back")
		}
	}
}

// P19.1: a line of its own.
func TestOwn(t *testing.T) {
	tr := trail(t, 9)
	tr.Set(of("ab", 1), false)
	tr.Now().S[0].V = 'x'
	tr.Set(of("abc", 1), false)
	tr.Back()
	if !line.Same(tr.Now(), of("ab", 1)) {
		t.Error(tr.Now())
	}
}
