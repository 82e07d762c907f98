package esc

import (
	"math"
	"math/rand"
	"slices"
	"strings"
	"testing"

	"dactyl/api"
	"dactyl/sign"
	"dactyl/utf"
)

func line(t *testing.T, values ...int) string {
	t.Helper()
	var l []api.Sign
	for i, v := range values {
		l = append(l, api.Sign{V: v, L: i % 6})
	}
	s, e := Line(l)
	if e != api.OK {
		t.Fatal(e)
	}
	return s
}

// P22.1
func TestLine(t *testing.T) {
	for want, values := range map[string][]int{
		"": nil, `a\u00000A\\`: {'a', 10, '\\'}, " ~": {32, 126}, `\u00001F\u00007F`: {31, 127}, `\u0000E9`: {0xE9}, `\u1100C3`: {api.Stray + 0xC3}, `\u10FFFF\u000000`: {api.MaxValue, 0},
	} {
		if got := line(t, values...); got != want {
			t.Errorf("%v: %s", values, got)
		}
	}
	for _, bad := range []api.Sign{{V: -1}, {V: 'a', L: 6}, {V: 0xD800}, {V: 'a', L: -1}} {
		if s, e := Line([]api.Sign{{V: 'a'}, bad}); s != "" || e != api.ErrArg {
			t.Errorf("Line of %v: %d", bad, e)
		}
		if s, e := Text([][]api.Sign{{{V: 'a'}}, {bad}}); s != "" || e != api.ErrArg {
			t.Errorf("Text of %v: %d", bad, e)
		}
	}
}

// P22.1
func TestText(t *testing.T) {
	s, e := Text([][]api.Sign{sign.Of(0, "ab"), nil, sign.Of(3, "\n")})
	if s != "ab\n\n\\u00000A\n" || e != api.OK {
		t.Errorf("%q, %d", s, e)
	}
	if s, e := Text(nil); s != "" || e != api.OK {
		t.Error("of none")
	}
}

// P22.2
func TestUnline(t *testing.T) {
	for s, want := range map[string][]int{
		"": nil, "ab": {'a', 'b'}, `\\`: {'\\'}, `\`: {'\\'}, `\\\`: {'\\', '\\'}, `\\u000041`: {'\\', 'u', '0', '0', '0', '0', '4', '1'}, `\\\u000041`: {'\\', 'A'}, `\u000041`: {'A'}, `\u00004`: {'\\', 'u', '0', '0', '0', '0', '4'}, `\u00004g`: {'\\', 'u', '0', '0', '0', '0', '4', 'g'}, `\u0000e9`: {'\\', 'u', '0', '0', '0', '0', 'e', '9'},
		`\u00D800`: {'\\', 'u', '0', '0', 'D', '8', '0', '0'}, `\u1100C3x`: {api.Stray + 0xC3, 'x'}, `\u11007F`: {'\\', 'u', '1', '1', '0', '0', '7', 'F'}, `\u00000A`: {10}, "é\xC3\r\x00": {0xE9, api.Stray + 0xC3, 13, 0}, `\x41`: {'\\', 'x', '4', '1'}, "a\nb": {'a', 10, 'b'}, `\U000041`: {'\\', 'U', '0', '0', '0', '0', '4', '1'}, `\u-00041`: {'\\', 'u', '-', '0', '0', '0', '4', '1'}, "\\é": {'\\', 0xE9}, `\uFFFFFF`: {'\\', 'u', 'F', 'F', 'F', 'F', 'F', 'F'},
	} {
		l := Unline(s, 100)
		if !slices.Equal(sign.Values(l), want) || !sign.Same(l, sign.With(l, api.LHist)) {
			t.Errorf("%q: %v", s, l)
		}
	}
	for long, want := range map[int]string{2: "aA", 1: "a", 0: "", -1: "", math.MinInt: "", 3: "aAb", math.MaxInt: "aAb"} {
		if got := Unline(`a\u000041b`, long); sign.Text(got) != want {
			t.Errorf("at most %d: %v", long, got)
		}
	}
}

func says(h [][]api.Sign) string {
	var l []string
	for _, x := range h {
		l = append(l, sign.Text(x))
	}
	return strings.Join(l, "/")
}

// P22.2
func TestRead(t *testing.T) {
	for _, c := range []struct {
		s          string
		most, long int
		want       string
	}{
		{"a\nb\nc\n", 9, 9, "a/b/c"}, {"a\nb\nc", 9, 9, "a/b/c"}, {"a\n\n\nb", 9, 9, "a/b"}, {"\n", 9, 9, ""}, {"", 9, 9, ""}, {"a\nb\nc\n", 2, 9, "b/c"}, {"a\nb\n\n\n", 1, 9, "b"},
		{"abc\nde", 9, 2, "ab/de"}, {"abc\nde", 9, 0, ""}, {"abc\nde", 9, -5, ""}, {"abc", 0, 9, ""}, {"abc", math.MinInt, 9, ""}, {"a\nb", math.MaxInt, math.MaxInt, "a/b"}, {"a\r\nb", 9, 9, "a\r/b"},
		{"a\na\n", 9, 9, "a/a"},
	} {
		if got := says(Read(c.s, c.most, c.long)); got != c.want {
			t.Errorf("%q, %d, %d: %q", c.s, c.most, c.long, got)
		}
	}
}

// P22.3
func TestEndsWell(t *testing.T) {
	r := rand.New(rand.NewSource(28))
	parts := []string{`\`, `\u`, "0000", "41", "D8", "é", "\xC3", "\n", "a", "\x00", `\u00000A`}
	for range 5000 {
		var b strings.Builder
		for range r.Intn(12) {
			b.WriteString(parts[r.Intn(len(parts))])
		}
		most, long := r.Intn(4), r.Intn(5)
		h := Read(b.String(), most, long)
		if len(h) > most {
			t.Fatalf("%q: %d lines", b.String(), len(h))
		}
		for _, l := range h {
			if len(l) == 0 || len(l) > long || sign.Check(l) != api.OK || !sign.Same(l, sign.With(l, api.LHist)) {
				t.Fatalf("%q: %v", b.String(), l)
			}
		}
	}
}

// P22.4
func TestBack(t *testing.T) {
	r := rand.New(rand.NewSource(29))
	values := []int{'a', '\\', 'u', '0', 10, 13, 27, 0xE9, 0x65E5, api.Stray + 0xC3, api.Stray + 0xA9, api.MaxValue, 0}
	for range 5000 {
		h := make([][]api.Sign, r.Intn(5))
		for i := range h {
			h[i] = make([]api.Sign, 1+r.Intn(9))
			for j := range h[i] {
				h[i][j] = api.Sign{V: values[r.Intn(len(values))], L: r.Intn(6)}
			}
		}
		s, e := Text(h)
		back := Read(s, len(h), 9)
		if e != api.OK || len(back) != len(h) {
			t.Fatalf("%v came back as %v", h, back)
		}
		for i, l := range h {
			if !sign.Same(back[i], sign.With(l, api.LHist)) || !sign.Same(Unline(strings.Split(s, "\n")[i], 9), back[i]) {
				t.Fatalf("%v came back as %v", l, back[i])
			}
		}
		if utf.Count(s) != len(s) {
			t.Fatalf("%q is not of single bytes", s)
		}
	}
}
