package utf

import (
	"math"
	"math/rand"
	"slices"
	"strings"
	"testing"
	"unicode/utf8"

	"dactyl/api"
)

// plainOne reads a value by the tables of RFC 3629, byte by byte.
func plainOne(s string) (int, int) {
	if s == "" {
		return 0, 0
	}
	for v, n := range map[int]int{1: 0x80, 2: 0x800, 3: 0x10000, 4: 0x110000} {
		if len(s) < v {
			continue
		}
		p, ok := int(s[0]), s[0] < 0x80
		if v > 1 {
			p, ok = int(s[0])&(0xFF>>(v+1)), int(s[0])>>(7-v) == 1<<(v+1)-2
		}
		for _, b := range []byte(s[1:v]) {
			p, ok = p<<6|int(b&0x3F), ok && b>>6 == 2
		}
		least := map[int]int{1: 0, 2: 0x80, 3: 0x800, 4: 0x10000}[v]
		if ok && p >= least && p < n && (p < 0xD800 || p > 0xDFFF) {
			return p, v
		}
	}
	return api.Stray + int(s[0]), 1
}

func someTexts() []string {
	l := []string{"", "a", "é", "\xC3\xA9\xC3", "\xC3", "\xEF\xBF\xBD", "a\uFFFDb\xFF", "\xED\xA0\x80", "\xF4\x90\x80\x80", "\xF4\x8F\xBF\xBF",
		"\xC0\x80", "\xC1\xBF", "\xE0\x80\x80", "\xF0\x80\x80\x80", "\xF8\x88\x80\x80\x80", "\x80", "\xE2\x82", "\xE2\x82a", "\xF0\x9F\x98", "😀", "\x00\x7F"}
	r := rand.New(rand.NewSource(2))
	bytes := []byte{0, 'a', 0x7F, 0x80, 0x8F, 0x90, 0x9F, 0xA0, 0xBF, 0xC0, 0xC2, 0xC3, 0xDF, 0xE0, 0xE1, 0xED, 0xEF, 0xF0, 0xF1, 0xF4, 0xF5, 0xFF}
	for i := 0; i < 3000; i++ {
		b := make([]byte, r.Intn(9))
		for j := range b {
			b[j] = bytes[r.Intn(len(bytes))]
		}
		l = append(l, string(b))
	}
	return l
}

// P2.1
func TestRight(t *testing.T) {
	for v, want := range map[int]bool{-1: false, 0: true, 0xD7FF: true, 0xD800: false, 0xDFFF: false, 0xE000: true, 0xFFFE: true, api.MaxValue: true,
		api.Stray: false, api.Stray + 127: false, api.Stray + 128: true, api.Stray + 255: true, api.Stray + 256: false, math.MaxInt: false, math.MinInt: false} {
		if Right(v) != want {
			t.Errorf("Right(%x)", v)
		}
	}
}

// P2.1
func TestOneDecodeCount(t *testing.T) {
	for _, s := range someTexts() {
		v, n := One(s)
		if pv, pn := plainOne(s); v != pv || n != pn {
			t.Errorf("One(%q) = %x, %d, not %x, %d", s, v, n, pv, pn)
		}
		var want []int
		for rest := s; rest != ""; {
			v, n := plainOne(rest)
			want, rest = append(want, v), rest[n:]
		}
		if !slices.Equal(Decode(s), want) || Count(s) != len(want) {
			t.Errorf("Decode(%q) = %x, not %x", s, Decode(s), want)
		}
	}
	if got := Decode("\xC3\xA9\xC3"); !slices.Equal(got, []int{233, api.Stray + 195}) {
		t.Errorf("the example: %x", got)
	}
}

// P2.2
func TestEncode(t *testing.T) {
	if got := Encode(97, 233, api.Stray+0xC3, 0x1F600, 0xFFFD, 0); got != "aé\xC3😀\uFFFD\x00" {
		t.Errorf("%q", got)
	}
	if got := Encode(-1, 0xD800, 0xDFFF, api.Stray, api.Stray+127, api.Stray+256, math.MaxInt, math.MinInt); got != "" {
		t.Errorf("of what may not be: %q", got)
	}
	if Encode() != "" {
		t.Error("of nothing")
	}
}

// P2.3
func TestPartial(t *testing.T) {
	begins := map[string]bool{}
	for p := 0x80; p <= api.MaxValue; p++ {
		if Right(p) {
			s := string(rune(p))
			for i := 1; i < len(s); i++ {
				begins[s[:i]] = true
			}
		}
	}
	for s := range begins {
		if !Partial(s) {
			t.Errorf("Partial(%q)", s)
		}
	}
	for _, s := range someTexts() {
		if Partial(s) != begins[s] {
			t.Errorf("Partial(%q) = %t", s, Partial(s))
		}
	}
	for b := 0; b < 256; b++ {
		if s := string([]byte{byte(b)}); Partial(s) != begins[s] {
			t.Errorf("Partial(%q)", s)
		}
	}
}

// P2.4
func TestBack(t *testing.T) {
	for _, s := range someTexts() {
		if got := Encode(Decode(s)...); got != s {
			t.Errorf("%q came back as %q", s, got)
		}
		if utf8.ValidString(s) && !slices.Equal(Decode(Encode(Decode(s)...)), Decode(s)) {
			t.Errorf("values of %q", s)
		}
	}
	var all []int
	for v := 0; v <= api.MaxValue; v++ {
		if Right(v) {
			all = append(all, v)
		}
	}
	if !slices.Equal(Decode(Encode(all...)), all) || strings.Contains(Encode(all...), "\x80\x80\x80\x80") {
		t.Error("all code points")
	}
}
