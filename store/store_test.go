package store

import (
	"math/rand"
	"slices"
	"strings"
	"testing"

	"dactyl/api"
	"dactyl/hist"
	"dactyl/sign"
	"dactyl/vfs"
)

func history(t *testing.T, texts ...string) *hist.Hist {
	t.Helper()
	var l [][]api.Sign
	for _, s := range texts {
		l = append(l, sign.Of(api.LPaste, s))
	}
	h, e := hist.Of(l, api.MaxHist, api.MaxEntry)
	if e != api.OK {
		t.Fatal(e)
	}
	return h
}

func says(h *hist.Hist) string {
	var l []string
	for _, x := range h.All() {
		l = append(l, sign.Text(x))
	}
	return strings.Join(l, "/")
}

func load(t *testing.T, d *vfs.Disk) string {
	t.Helper()
	h, e := Load(d, api.MaxHist, api.MaxEntry)
	if e != api.OK {
		t.Fatal(e)
	}
	return says(h)
}

// P24.1
func TestSave(t *testing.T) {
	d := vfs.New()
	if e := Save(d, nil); e != api.ErrNil || d.Ops() != 0 {
		t.Error("no history", e)
	}
	if e := Save(nil, history(t)); e != api.ErrNil {
		t.Error("no disk", e)
	}
	if e := Save(d, history(t, "a\n", "b")); e != api.OK || d.Ops() != 4 || !slices.Equal(d.Names(), []string{"history"}) {
		t.Error("saved", e)
	}
	if s, _ := d.Read("history"); s != "a\\u00000A\nb\n" {
		t.Errorf("%q", s)
	}
	cut := vfs.New(api.Crash{At: 2})
	Save(cut, history(t, "a"))
	cut.Power()
	if s, e := cut.Read("history.new"); s != "a\n" || e != api.OK || len(cut.Names()) != 1 {
		t.Error("the file that is written first", cut.Names())
	}
	great, _ := hist.New(api.MaxHist, api.MaxEntry)
	for i := range 50 {
		great.Add(sign.Of(0, strings.Repeat("\x01", 4000+i)))
	}
	if e := Save(d, great); e != api.ErrBig || load(t, d) != "a\n/b" {
		t.Error("too great a text", e)
	}
	for at := range 4 {
		d := vfs.New(api.Crash{At: at})
		if e := Save(d, history(t, "a")); e != api.ErrDown || Save(d, history(t, "a")) != api.ErrDown {
			t.Error("no power", e)
		}
	}
}

// P24.2
func TestLoad(t *testing.T) {
	if h, e := Load(nil, 9, 9); h != nil || e != api.ErrNil {
		t.Error("no disk", e)
	}
	down := vfs.New(api.Crash{At: 0})
	down.Sync()
	if h, e := Load(down, 0, 0); h != nil || e != api.ErrDown {
		t.Error("no power", e)
	}
	d := vfs.New()
	if h, e := Load(d, 0, 9); h != nil || e != api.ErrRange {
		t.Error("bounds", e)
	}
	if h, e := Load(d, 9, api.MaxEntry+1); h != nil || e != api.ErrRange {
		t.Error("bounds", e)
	}
	if load(t, d) != "" {
		t.Error("no file")
	}
	d.Write("history", "a\nb\n\xFF\x1b[2J\n\na\ntoolong")
	if got := load(t, d); got != "b/\xFF\x1b[2J/a/toolong" {
		t.Errorf("%q", got)
	}
	if h, e := Load(d, 2, 3); e != api.OK || says(h) != "a/too" {
		t.Error("within bounds", says(h))
	}
}

// P24.3
func TestBack(t *testing.T) {
	d := vfs.New()
	h := history(t, "a", "é\xC3\\", "\n\r", "b")
	if e := Save(d, h); e != api.OK {
		t.Fatal(e)
	}
	back, e := Load(d, 4, 4)
	if e != api.OK || says(back) != says(h) {
		t.Error(says(back), e)
	}
	for _, l := range back.All() {
		if !sign.Same(l, sign.With(l, api.LHist)) {
			t.Error("labels", l)
		}
	}
}

// P24.4
func TestAtOnce(t *testing.T) {
	r := rand.New(rand.NewSource(30))
	old, fresh := history(t, "one", "two"), history(t, "two", "three", "four")
	for _, before := range []bool{true, false} {
		was := ""
		if before {
			was = says(old)
		}
		for at := range 4 {
			seen := map[string]bool{}
			for range 200 {
				keep := make([]byte, r.Intn(4))
				for i := range keep {
					keep[i] = []byte{0, 1, 5, 127, 128, 254, 255}[r.Intn(7)]
				}
				first := 0
				if before {
					first = 4
				}
				d := vfs.New(api.Crash{At: first + at, Keep: keep})
				if before && Save(d, old) != api.OK {
					t.Fatal("the old one")
				}
				if e := Save(d, fresh); e != api.ErrDown {
					t.Fatal(e)
				}
				d.Power()
				got := load(t, d)
				if got != was && got != says(fresh) {
					t.Fatalf("at %d, %v: %q", at, keep, got)
				}
				seen[got] = true
				if Save(d, fresh) != api.OK || load(t, d) != says(fresh) {
					t.Fatal("saved with power again")
				}
			}
			if at >= 2 && len(seen) != 2 {
				t.Errorf("at %d: %v", at, seen)
			}
		}
	}
}
