package spoof

import (
	"math/rand"
	"slices"
	"strings"
	"testing"

	"dactyl/api"
	"dactyl/class"
	"dactyl/show"
	"dactyl/utf"
)

// P44.1
func TestStripTell(t *testing.T) {
	for s, want := range map[string][2]string{
		"": {"", ""}, "pay": {"pay", "pay"}, "a\x1b[31m日а": {"a[31m日а", "a^[[31m日а"}, "\xC3\xA9\xC3": {"é", `é\xC3`}, "a\u202eb\u0301\u00a0": {"ab", "a<U+202E>b<U+0301><U+00A0>"}, "\x7f\u0085\uFFFD": {"\uFFFD", "^?<U+0085>\uFFFD"},
	} {
		if Strip(s) != want[0] || Tell(s) != want[1] {
			t.Errorf("%q: %q, %q", s, Strip(s), Tell(s))
		}
	}
}

// P44.2
func TestFold(t *testing.T) {
	for s, want := range map[string]string{"": "", "раy": "pay", "Αβ‐": "Aβ-", "\xC3\x1b": "\xC3\x1b", "日": "日"} {
		if Fold(s) != want {
			t.Errorf("%q: %q", s, Fold(s))
		}
	}
}

// P44.2
func TestAlikeFind(t *testing.T) {
	for _, c := range []struct {
		a, b string
		want bool
	}{{"pаy", "pay", true}, {"p\u200bay", "pay", true}, {"\x1bpay", "ра\u202eу", true}, {"pay", "pax", false}, {"", "\x1b", true}, {"pay", "pa", false}, {"日", "日", true}, {"a", "A", false}} {
		if Alike(c.a, c.b) != c.want || Alike(c.b, c.a) != c.want {
			t.Errorf("Alike(%q, %q)", c.a, c.b)
		}
	}
	l := []string{"pax", "pay", "pаy", "p\u200bay"}
	if Find("pay", l) != 2 || Find("pаy", l) != 1 || Find("pax", l) != -1 || Find("q", l) != -1 || Find("pay", nil) != -1 || Find("ра\u202eу", l) != 1 {
		t.Error("Find")
	}
}

// P44.3
func TestScripts(t *testing.T) {
	for s, want := range map[string][]int{
		"": nil, "12 -": nil, "a": {1}, "z": {1}, "A": {1}, "Z": {1}, "[`{@": nil, "\u00bf": nil, "\u00c0": {1}, "\u024f": {1}, "\u0250": nil, "\u036f": nil, "\u0370": {2}, "\u03ff": {2}, "\u0400": {3}, "\u052f": {3}, "\u0530": nil, "日": {4}, "日аaα": {1, 2, 3, 4}, "аа日а": {3, 4}, "\xC3a": {1}, "\u037e": {2},
	} {
		if got := Scripts(s); !slices.Equal(got, want) {
			t.Errorf("%q: %v", s, got)
		}
	}
	for s, want := range map[string]bool{"": false, "abc": false, "pаy": true, "pαy": true, "αа": true, "日a": false, "日а": false, "日α": false, "日aа": true, "1а-": false} {
		if Mixed(s) != want {
			t.Errorf("Mixed(%q)", s)
		}
	}
}

// P44.4
func TestNothingIsLeft(t *testing.T) {
	r := rand.New(rand.NewSource(48))
	parts := []string{"a", "а", "α", "A", "А", "Α", "\x1b", "\u202e", "\xC3", "\xA9", "é", "日", "\u0301", "-", "‐", "−", "\x00"}
	some := func() string {
		var b strings.Builder
		for range r.Intn(5) {
			b.WriteString(parts[r.Intn(len(parts))])
		}
		return b.String()
	}
	alike := 0
	for range 30000 {
		a, b, c := some(), some(), some()
		for _, s := range []string{Strip(a), Tell(a)} {
			if slices.ContainsFunc(utf.Decode(s), class.Danger) || Strip(s) != s {
				t.Fatalf("%q: %q", a, s)
			}
		}
		if Fold(Fold(a)) != Fold(a) || !Alike(a, a) || Alike(a, b) != Alike(b, a) || Alike(a, b) && Alike(b, c) && !Alike(a, c) {
			t.Fatalf("%q, %q, %q", a, b, c)
		}
		if Alike(a, b) && a != b {
			alike++
		}
	}
	if alike < 100 {
		t.Error("too few were alike")
	}
	for v := range api.Stray + 256 {
		if s := utf.Encode(v); utf.Right(v) && (Tell(s) != show.Text(v) || class.Danger(v) == (Strip(s) == s)) {
			t.Fatalf("%X", v)
		}
	}
}
