package emit

import (
	"math"
	"math/rand"
	"strings"
	"testing"

	"dactyl/api"
)

func someOut(r *rand.Rand) api.Out {
	switch kind := r.Intn(9); kind {
	case api.OText:
		return api.Out{Text: []string{"a", "ab", "日本", "аб", "~ é"}[r.Intn(5)]}
	case api.OMove:
		return api.Out{Kind: kind, N: 1 + r.Intn(api.MaxSide), M: 1 + r.Intn(api.MaxSide)}
	case api.OLooks:
		return api.Out{Kind: kind, N: r.Intn(8)}
	case api.OPaste:
		return api.Out{Kind: kind, N: r.Intn(2)}
	default:
		return api.Out{Kind: kind}
	}
}

func good() map[string]api.Out {
	return map[string]api.Out{
		"a": {Text: "a"}, "日а ~": {Text: "日а ~"}, "\a": {Kind: api.OBell}, "\r": {Kind: api.OCR}, "\n": {Kind: api.OLF},
		"\x1b[2;3H": {Kind: api.OMove, N: 2, M: 3}, "\x1b[1000;1000H": {Kind: api.OMove, N: 1000, M: 1000}, "\x1b[1;1H": {Kind: api.OMove, N: 1, M: 1},
		"\x1b[2J": {Kind: api.OErase}, "\x1b[K": {Kind: api.ORest}, "\x1b[?2004h": {Kind: api.OPaste, N: 1}, "\x1b[?2004l": {Kind: api.OPaste},
		"\x1b[0m": {Kind: api.OLooks}, "\x1b[0;7m": {Kind: api.OLooks, N: 1}, "\x1b[0;4m": {Kind: api.OLooks, N: 2}, "\x1b[0;7;4m": {Kind: api.OLooks, N: 3},
		"\x1b[0;1m": {Kind: api.OLooks, N: 4}, "\x1b[0;7;1m": {Kind: api.OLooks, N: 5}, "\x1b[0;4;1m": {Kind: api.OLooks, N: 6}, "\x1b[0;7;4;1m": {Kind: api.OLooks, N: 7},
	}
}

func bad() []api.Out {
	return []api.Out{
		{}, {Text: "a", N: 1}, {Text: "a", M: 1}, {Text: "\x1b"}, {Text: "a\x85"}, {Text: "a\u0085"}, {Text: "a\u0301"}, {Text: "\xff"}, {Text: "a\nb"}, {Text: "\u200b"}, {Text: "\u00a0"},
		{Kind: api.OMove}, {Kind: api.OMove, N: 0, M: 1}, {Kind: api.OMove, N: 1, M: 0}, {Kind: api.OMove, N: 1001, M: 1}, {Kind: api.OMove, N: 1, M: 1001}, {Kind: api.OMove, N: 1, M: 1, Text: "x"},
		{Kind: api.OMove, N: math.MinInt, M: math.MaxInt}, {Kind: api.OErase, N: 1}, {Kind: api.ORest, M: 1}, {Kind: api.OBell, Text: "x"}, {Kind: api.OCR, N: -1}, {Kind: api.OLF, M: 9},
		{Kind: api.OLooks, N: 8}, {Kind: api.OLooks, N: -1}, {Kind: api.OLooks, M: 1}, {Kind: api.OPaste, N: 2}, {Kind: api.OPaste, N: -1}, {Kind: api.OPaste, N: 1, M: 1}, {Kind: -1}, {Kind: 9}, {Kind: math.MaxInt},
	}
}

// P10.1
func TestCheckText(t *testing.T) {
	for want, o := range good() {
		if Check(o) != api.OK {
			t.Errorf("Check(%v)", o)
		}
		if s, e := Text(o, o); s != want+want || e != api.OK {
			t.Errorf("Text(%v) = %q, %d", o, s, e)
		}
	}
	for _, o := range bad() {
		if Check(o) != api.ErrArg {
			t.Errorf("Check(%v) = %d", o, Check(o))
		}
		if s, e := Text(api.Out{Kind: api.OBell}, o); s != "" || e != api.ErrArg {
			t.Errorf("Text(%v) = %q, %d", o, s, e)
		}
	}
	if s, e := Text(); s != "" || e != api.OK {
		t.Error("of none")
	}
	if s, _ := Text(api.Out{Kind: api.OMove, N: 2, M: 3}, api.Out{Text: "a"}); s != string([]byte{27, 91, 50, 59, 51, 72, 97}) {
		t.Errorf("the example: %q", s)
	}
}

// P10.1
func TestSame(t *testing.T) {
	a := []api.Out{{Text: "a"}, {Kind: api.OMove, N: 1, M: 2}}
	if !Same(a, []api.Out{{Text: "a"}, {Kind: api.OMove, N: 1, M: 2}}) || !Same(nil, []api.Out{}) {
		t.Error("the same")
	}
	for _, b := range [][]api.Out{nil, a[:1], {{Text: "b"}, a[1]}, {a[0], {Kind: api.OMove, N: 1, M: 3}}, {a[0], {Kind: api.OMove, N: 2, M: 2}}, {a[0], a[1], a[1]}} {
		if Same(a, b) || Same(b, a) {
			t.Errorf("the same: %v", b)
		}
	}
}

// P10.2
func TestParseRefuses(t *testing.T) {
	for _, s := range []string{"\x1b", "\x1b[", "\x1b[H", "\x1b[;H", "\x1b[1H", "\x1b[1;H", "\x1b[;1H", "\x1b[01;1H", "\x1b[1;01H", "\x1b[0;1H", "\x1b[1;0H", "\x1b[1001;1H", "\x1b[1;1001H", "\x1b[1;1;1H", "\x1b[-1;1H", "\x1b[+1;1H",
		"\x1b[1;1f", "\x1b[J", "\x1b[1J", "\x1b[3J", "\x1b[02J", "\x1b[0K", "\x1b[1K", "\x1b[m", "\x1b[7m", "\x1b[0;0m", "\x1b[0;4;7m", "\x1b[0;7;7m", "\x1b[0;1;4m", "\x1b[00m", "\x1b[0;5m", "\x1b[31m", "\x1b[?2004", "\x1b[?2004x", "\x1b[2004h", "\x1b[?02004h", "\x1b[?25h", "\x1b[?1049h",
		"\x1b]0;x\a", "\x1bc", "\x1bOA", "\x1b[A", "\x1b[6n", "\x1b[1;1H\x1b", "a\x1b[", "\t", "\x00", "\x7f", "\x85", "\u0085", "\u009b2J", "\u202e", "a\u0301", "\xff", "é\xC3", "\u2028", "\ue000", "\x1b[ 2J", "\x1b[2 J", "\x1b[11111111111111111111;1H"} {
		if l, e := Parse(s); e != api.ErrForm || l != nil || Clean(s) {
			t.Errorf("Parse(%q) = %v, %d", s, l, e)
		}
	}
}

// P10.2
func TestParse(t *testing.T) {
	for s, want := range good() {
		if l, e := Parse(s); e != api.OK || !Same(l, []api.Out{want}) || !Clean(s) {
			t.Errorf("Parse(%q) = %v, %d", s, l, e)
		}
	}
	if l, e := Parse(""); len(l) != 0 || e != api.OK || !Clean("") {
		t.Error("of none")
	}
	l, _ := Parse("ab\x1b[Kcd\r\n")
	if !Same(l, []api.Out{{Text: "ab"}, {Kind: api.ORest}, {Text: "cd"}, {Kind: api.OCR}, {Kind: api.OLF}}) {
		t.Errorf("%v", l)
	}
}

// P10.3
func TestSkeleton(t *testing.T) {
	l := []api.Out{{Text: "ab"}, {Text: "日"}, {Kind: api.OLooks, N: 3}, {Text: "\u0301"}, {Kind: api.ORest}, {Text: ""}, {Text: "x"}}
	want := []api.Out{{N: 4}, {Kind: api.OLooks, N: 3}, {Kind: api.ORest}, {N: 1}}
	if got := Skeleton(l); !Same(got, want) {
		t.Errorf("%v", got)
	}
	if len(Skeleton(nil)) != 0 || len(Skeleton([]api.Out{{Text: "\x1b"}})) != 0 {
		t.Error("of no columns")
	}
	if l[0].Text != "ab" {
		t.Error("what was handed in is another")
	}
}

// P10.4
func TestBack(t *testing.T) {
	r := rand.New(rand.NewSource(14))
	for range 3000 {
		var l, joined []api.Out
		for range r.Intn(7) {
			o := someOut(r)
			l = append(l, o)
			if n := len(joined); o.Kind == api.OText && n > 0 && joined[n-1].Kind == api.OText {
				joined[n-1].Text += o.Text
			} else {
				joined = append(joined, o)
			}
		}
		s, e := Text(l...)
		got, f := Parse(s)
		if e != api.OK || f != api.OK || !Same(got, joined) {
			t.Fatalf("%v came back as %v", l, got)
		}
		if again, _ := Text(got...); again != s {
			t.Fatalf("%q came back as %q", s, again)
		}
	}
}

// P10.4, of texts of any bytes
func TestBackOfAny(t *testing.T) {
	r := rand.New(rand.NewSource(15))
	parts := []string{"\x1b", "[", "2", "J", "K", "0", ";", "7", "m", "H", "1", "a", "?", "2004", "h", "\a", "日", "\xE6"}
	clean := 0
	for range 100000 {
		var b strings.Builder
		for range r.Intn(7) {
			b.WriteString(parts[r.Intn(len(parts))])
		}
		l, e := Parse(b.String())
		if e != api.OK {
			continue
		}
		clean++
		if s, f := Text(l...); f != api.OK || s != b.String() {
			t.Fatalf("%q came back as %q", b.String(), s)
		}
	}
	if clean < 1000 {
		t.Errorf("only %d were of the grammar", clean)
	}
}
