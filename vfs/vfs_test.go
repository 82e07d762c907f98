package vfs

import (
	"maps"
	"math"
	"math/rand"
	"slices"
	"strings"
	"testing"

	"dactyl/api"
)

// state tells all files that are seen.
func state(t *testing.T, d *Disk) string {
	t.Helper()
	var l []string
	for _, name := range d.Names() {
		s, e := d.Read(name)
		if e != api.OK {
			t.Fatal(e)
		}
		l = append(l, name+"="+s)
	}
	return strings.Join(l, " ")
}

// P21.1
func TestLooks(t *testing.T) {
	d := New()
	if len(d.Names()) != 0 || d.Down() || d.Ops() != 0 {
		t.Error("at first")
	}
	if s, e := d.Read("a"); s != "" || e != api.ErrNone {
		t.Error("Read", e)
	}
	d.Write("b", "2")
	d.Write("a", "1")
	if state(t, d) != "a=1 b=2" || d.Ops() != 2 {
		t.Error(state(t, d))
	}
	d.Power()
	if state(t, d) != "a=1 b=2" || d.Down() {
		t.Error("power for one that has it")
	}
}

// P21.1 to P21.3
func TestNil(t *testing.T) {
	var d *Disk
	d.Power()
	_, e := d.Read("a")
	if e != api.ErrNil || d.Write("", "") != api.ErrNil || d.Rename("", "") != api.ErrNil || d.Remove("") != api.ErrNil || d.Sync() != api.ErrNil || len(d.Names()) != 0 || !d.Down() || d.Ops() != 0 {
		t.Error("of nil")
	}
}

// P21.2
func TestRefused(t *testing.T) {
	d := New()
	d.Write("a", "1")
	great := strings.Repeat("x", api.MaxText+1)
	for name, c := range map[string][2]api.Errno{
		"write of no name":       {d.Write("", great), api.ErrArg},
		"write of too much":      {d.Write("a", great), api.ErrBig},
		"rename of no name":      {d.Rename("", "b"), api.ErrArg},
		"rename to no name":      {d.Rename("x", ""), api.ErrArg},
		"rename of none":         {d.Rename("x", "b"), api.ErrNone},
		"rename of none to same": {d.Rename("x", "x"), api.ErrNone},
		"rename to same":         {d.Rename("a", "a"), api.ErrArg},
		"remove of no name":      {d.Remove(""), api.ErrArg},
		"remove of none":         {d.Remove("x"), api.ErrNone},
	} {
		if c[0] != c[1] {
			t.Errorf("%s: %d", name, c[0])
		}
	}
	if state(t, d) != "a=1" || d.Ops() != 1 {
		t.Error("something was changed")
	}
	if d.Write("a", great[1:]) != api.OK || d.Rename("a", "b") != api.OK || d.Remove("b") != api.OK || d.Remove("b") != api.ErrNone || d.Sync() != api.OK || d.Ops() != 5 {
		t.Error("what can be done")
	}
}

// P21.2
func TestRenameOver(t *testing.T) {
	d := New()
	d.Write("a", "1")
	d.Write("b", "2")
	d.Rename("a", "b")
	if state(t, d) != "b=1" {
		t.Error(state(t, d))
	}
}

// P21.2, P21.3
func TestCrash(t *testing.T) {
	for _, c := range []struct {
		at   int
		keep []byte
		want string
	}{
		{0, nil, ""}, {0, []byte{0}, ""}, {0, []byte{1}, "a=h"}, {0, []byte{5}, "a=hello"}, {0, []byte{254}, "a=hello"}, {0, []byte{255}, "a=hello"},
		{1, nil, ""}, {1, []byte{2}, "a=he b=w"}, {1, []byte{2, 0}, "a=he"}, {1, []byte{0, 255}, "b=w"},
		{2, []byte{255, 0}, "c=hello"}, // the third change is kept by the first byte
		{2, []byte{255, 255, 127}, "a=hello b=w"}, {2, []byte{255, 255, 128}, "b=w c=hello"}, {2, []byte{0, 0, 255}, ""},
		{3, []byte{255, 255, 255, 127}, "b=w c=hello"}, {3, []byte{255, 255, 255, 200}, "c=hello"},
		{4, []byte{255, 255, 0, 0}, "a=hello b=w"}, {4, []byte{1}, "a=h b=w"}, {4, nil, ""},
	} {
		d := New(api.Crash{At: 99}, api.Crash{At: c.at, Keep: c.keep}, api.Crash{At: c.at, Keep: []byte{255}})
		errs := []api.Errno{d.Write("a", "hello"), d.Write("b", "w"), d.Rename("a", "c"), d.Remove("b"), d.Sync()}
		for i, e := range errs {
			if want := i >= c.at; want != (e == api.ErrDown) || !want && e != api.OK {
				t.Errorf("crash at %d: operation %d: %d", c.at, i, e)
			}
		}
		_, e := d.Read("a")
		if !d.Down() || e != api.ErrDown || len(d.Names()) != 0 || d.Ops() != c.at+1 || d.Write("", "") != api.ErrDown || d.Rename("x", "x") != api.ErrDown {
			t.Errorf("crash at %d: it is not down", c.at)
		}
		d.Power()
		if d.Down() || state(t, d) != c.want {
			t.Errorf("crash at %d that keeps %v: %s, not %s", c.at, c.keep, state(t, d), c.want)
		}
	}
}

// P21.3
func TestSync(t *testing.T) {
	d := New(api.Crash{At: 3})
	d.Write("a", "1")
	if d.Sync() != api.OK || d.Ops() != 2 {
		t.Error("Sync")
	}
	d.Write("a", "2")
	if state(t, d) != "a=2" || d.Sync() != api.ErrDown {
		t.Error("what waits is seen")
	}
	d.Power()
	if state(t, d) != "a=1" {
		t.Error("what was synced stays, what waited is gone:", state(t, d))
	}
	if d.Sync() != api.OK || d.Ops() != 5 {
		t.Error("with power again")
	}
}

// P21.2, P21.3: what waited is done, or gone, once: nothing of it is left for a later Sync, or crash.
func TestNothingWaits(t *testing.T) {
	d := New(api.Crash{At: 1})
	d.Write("a", "1")
	d.Write("b", "2")
	d.Power()
	if d.Sync() != api.OK || state(t, d) != "" {
		t.Error("behind a crash:", state(t, d))
	}
	e := New(api.Crash{At: 4, Keep: []byte{255, 0}})
	e.Write("a", "1")
	e.Sync()
	e.Write("a", "2")
	e.Sync()
	e.Write("a", "3")
	e.Power()
	if state(t, e) != "a=3" {
		t.Error("behind a Sync:", state(t, e))
	}
}

// P21.1: an empty text is a file too.
func TestEmpty(t *testing.T) {
	d := New(api.Crash{At: 1, Keep: []byte{7}})
	d.Write("a", "")
	d.Sync()
	d.Power()
	if s, e := d.Read("a"); s != "" || e != api.OK {
		t.Error("kept", e)
	}
}

// R3
func TestOwn(t *testing.T) {
	keep := []byte{255}
	d := New(api.Crash{At: 0, Keep: keep})
	keep[0] = 0
	d.Write("a", "1")
	d.Power()
	if state(t, d) != "a=1" {
		t.Error("a crash that was handed in is kept as it was")
	}
}

// P21.1 to P21.3: without crashes a disk is a map; with one, some changes of those that wait are kept.
func TestAsMap(t *testing.T) {
	r := rand.New(rand.NewSource(27))
	names := []string{"a", "b", "c"}
	for range 500 {
		crash := r.Intn(30)
		d := New(api.Crash{At: crash, Keep: []byte{255}}, api.Crash{At: math.MaxInt})
		m := map[string]string{}
		for range 30 {
			a, b, text := names[r.Intn(3)], names[r.Intn(3)], strings.Repeat("x", r.Intn(4))
			var e api.Errno
			switch r.Intn(4) {
			case 0:
				e = d.Write(a, text)
				m[a] = text
			case 1:
				if e = d.Rename(a, b); e == api.OK || e == api.ErrDown {
					m[b] = m[a]
					delete(m, a)
				}
			case 2:
				if e = d.Remove(a); e == api.OK || e == api.ErrDown {
					delete(m, a)
				}
			default:
				e = d.Sync()
			}
			if e == api.ErrDown {
				d.Power()
			}
			if !slices.Equal(d.Names(), slices.Sorted(maps.Keys(m))) {
				t.Fatalf("%v, not %v", d.Names(), m)
			}
			for name, want := range m {
				if s, _ := d.Read(name); s != want {
					t.Fatalf("%s is %q, not %q", name, s, want)
				}
			}
		}
	}
}
