package macro

import (
	"math"
	"strings"
	"testing"

	"dactyl/api"
	"dactyl/key"
)

func made(t *testing.T, most int) *Macro {
	t.Helper()
	m, e := New(most)
	if e != api.OK {
		t.Fatal(e)
	}
	return m
}

func keep(t *testing.T, m *Macro, names string) {
	t.Helper()
	if !m.Begin() {
		t.Fatal("Begin")
	}
	for _, name := range strings.Fields(names) {
		k, e := key.Parse(name)
		if e != api.OK || !m.Do(k) {
			t.Fatal(name)
		}
	}
	if !m.End() {
		t.Fatal("End")
	}
}

func says(l []api.Key) string {
	var b []string
	for _, k := range l {
		name, _ := key.Name(k)
		b = append(b, name)
	}
	return strings.Join(b, " ")
}

// P42.1
func TestNew(t *testing.T) {
	for _, most := range []int{0, -1, api.MaxArg + 1, math.MinInt, math.MaxInt} {
		if m, e := New(most); m != nil || e != api.ErrRange {
			t.Errorf("New of %d: %d", most, e)
		}
	}
	for _, most := range []int{1, api.MaxArg} {
		if m := made(t, most); m.Keeps() || len(m.Keys()) != 0 || m.End() || m.Do(api.Key{Kind: api.KUp}) {
			t.Error("at first")
		}
	}
	var m *Macro
	l, e := m.Play(0)
	if m.Keeps() || len(m.Keys()) != 0 || m.Begin() || m.Do(api.Key{Kind: api.KUp}) || m.End() || l != nil || e != api.ErrNil {
		t.Error("of nil")
	}
}

// P42.2
func TestKeep(t *testing.T) {
	m := made(t, 3)
	keep(t, m, "a UP")
	if says(m.Keys()) != "a UP" {
		t.Error(says(m.Keys()))
	}
	m.Begin()
	if m.Begin() || !m.Keeps() || says(m.Keys()) != "a UP" {
		t.Error("while it is being kept")
	}
	if m.Do(api.Key{}) || m.Do(api.Key{Kind: api.KSign, V: 10}) || m.Do(api.Key{Kind: api.KUp, V: 1}) {
		t.Error("a key that may not be")
	}
	for range 3 {
		if !m.Do(api.Key{Kind: api.KDown}) {
			t.Error("Do")
		}
	}
	if m.Do(api.Key{Kind: api.KDown}) || !m.End() || m.End() || m.Keeps() || says(m.Keys()) != "DOWN DOWN DOWN" {
		t.Error("the cap", says(m.Keys()))
	}
	keep(t, m, "")
	if says(m.Keys()) != "DOWN DOWN DOWN" {
		t.Error("of no keys they stay", says(m.Keys()))
	}
	keep(t, m, "P-61")
	m.Keys()[0].Text = "x"
	if says(m.Keys()) != "P-61" {
		t.Error("keys of its own", says(m.Keys()))
	}
}

// P42.3
func TestPlay(t *testing.T) {
	m := made(t, api.MaxArg)
	if l, e := m.Play(0); l != nil || e != api.ErrNone {
		t.Error("no keys", e)
	}
	keep(t, m, "a b")
	for n, want := range map[int]api.Errno{0: api.ErrRange, -1: api.ErrRange, math.MinInt: api.ErrRange, 5000: api.ErrBig, math.MaxInt: api.ErrBig, math.MaxInt/2 + 1: api.ErrBig, 4999: api.OK, 1: api.OK} {
		if l, e := m.Play(n); e != want || e == api.OK && len(l) != 2*n || e != api.OK && l != nil {
			t.Errorf("Play(%d): %d", n, e)
		}
	}
	if l, _ := m.Play(2); says(l) != "a b a b" {
		t.Error("the example", says(l))
	}
	l, _ := m.Play(1)
	l[0].V = 'x'
	_ = append(l, l...)
	if says(m.Keys()) != "a b" {
		t.Error("keys of its own")
	}
	m.Begin()
	if l, e := m.Play(0); l != nil || e != api.ErrMode {
		t.Error("while it is being kept", e)
	}
	m.End()
	if l, e := m.Play(1); says(l) != "a b" || e != api.OK {
		t.Error("behind that", e)
	}
}
