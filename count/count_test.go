package count

import (
	"strings"
	"testing"

	"dactyl/api"
	"dactyl/key"
)

// P29.1, P29.2
func TestCounts(t *testing.T) {
	for _, c := range []struct {
		names string
		did   string // which keys are of the count
		n     int
		begun bool
	}{
		{"", "", 1, false}, {"1", "n", 1, false}, {"M-5", "y", 5, true}, {"M-1 2", "yy", 12, true}, {"M-- M-1 2", "yyy", -12, true}, {"M--", "y", -1, true}, {"M-- M--", "yy", 1, true}, {"M-- M-- M-3", "yyy", 3, true}, {"M-- M-- M-- 4", "yyyy", -4, true},
		{"M-1 M--", "yn", 1, true}, {"M-0", "y", 0, true}, {"M-- M-0", "yy", 0, true}, {"M-0 0 7", "yyy", 7, true}, {"M-1 a", "yn", 1, true}, {"M-1 M-a", "yn", 1, true}, {"-", "n", 1, false}, {"M-1 -", "yn", 1, true}, {"M-- -", "yn", -1, true}, {"M-- 5", "yy", -5, true},
		{"M-9 9 9 9", "yyyy", 9999, true}, {"M-9 9 9 9 9", "yyyyy", 9999, true}, {"M-1 0 0 0 0 0 0 0 0 0 0 0 0 0 0 0 0 0 0 0 0 0 0", "yyyyyyyyyyyyyyyyyyyyyyy", 9999, true}, {"M-- M-9 9 9 9 9", "yyyyyy", -9999, true},
		{"M-/ M-: / :", "nnnn", 1, false}, {"C-a RET UP", "nnn", 1, false}, {"M-1 <661>", "yn", 1, true},
	} {
		x := New()
		var did string
		for _, name := range strings.Fields(c.names) {
			k, e := key.Parse(name)
			if e != api.OK {
				t.Fatal(name)
			}
			if x.Do(k) {
				did += "y"
			} else {
				did += "n"
			}
		}
		n, begun := x.Value()
		if did != c.did || n != c.n || begun != c.begun {
			t.Errorf("%s: %s, %d, %t", c.names, did, n, begun)
		}
		if n, begun := x.Take(); n != c.n || begun != c.begun {
			t.Errorf("%s: Take: %d, %t", c.names, n, begun)
		}
		if n, begun := x.Value(); n != 1 || begun {
			t.Errorf("%s: behind Take: %d, %t", c.names, n, begun)
		}
		if x.Do(api.Key{Kind: api.KSign, V: '3'}) {
			t.Errorf("%s: behind Take a sign is a sign", c.names)
		}
	}
}

// P29.1: a key that may not be is of no count.
func TestWrong(t *testing.T) {
	x := New()
	for _, k := range []api.Key{{Kind: api.KMeta, V: '1', Text: "x"}, {Kind: api.KMeta, V: '1', Cut: true}, {Kind: api.KMeta, V: '-', Text: "x"}, {}, {Kind: api.KEnter, V: '1'}} {
		if x.Do(k) {
			t.Errorf("%v", k)
		}
	}
	if n, begun := x.Value(); n != 1 || begun {
		t.Error("something was changed")
	}
	var none *Count
	n, ok := none.Value()
	m, took := none.Take()
	if none.Do(api.Key{Kind: api.KMeta, V: '1'}) || n != 1 || ok || m != 1 || took {
		t.Error("of nil")
	}
}
