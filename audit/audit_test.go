package audit

import (
	"math/rand"
	"slices"
	"strings"
	"testing"

	"dactyl/api"
	"dactyl/class"
	"dactyl/emit"
	"dactyl/utf"
)

// P38.1
func TestPlace(t *testing.T) {
	for s, want := range map[string]int{"": -1, "a\x1bc": 1, "abc": -1, "\x1b": 0, "\x1b[2J": -1, "\x1b[3J": 0, "a日\xE6\x97": 4, "a日\x1b[1;1Hb\x1b[31mc": 11, "a\tb": 1, "\x07\r\n\x08": 3, "\x1b[1000;1000H\x1b[1001;1H": 12, "\x1b[?2004h\x1b[?25h": 8, "é\u0301": 2, "\x1b[0;7;4;1m\x1b[": 10} {
		if got := Place(s); got != want {
			t.Errorf("Place(%q) = %d", s, got)
		}
	}
}

// P38.1: against all beginnings.
func TestLongest(t *testing.T) {
	r := rand.New(rand.NewSource(43))
	parts := []string{"\x1b", "[", "2J", "K", "0;7m", "1;1H", "a", "日", "\xE6", "\x97", "\r", "\a", "\x1b[2J", "\x1b[1;1H", "\x1b[0m", "\x00", "\u202e"}
	for range 20000 {
		var b strings.Builder
		for range r.Intn(8) {
			b.WriteString(parts[r.Intn(len(parts))])
		}
		s, want := b.String(), 0
		for n := range len(s) + 1 {
			if emit.Clean(s[:n]) {
				want = n
			}
		}
		kinds := [9]int{}
		l, _ := emit.Parse(s[:want])
		for _, o := range l {
			kinds[o.Kind]++
		}
		if Kinds(s) != kinds {
			t.Fatalf("Kinds(%q) = %v, not %v", s, Kinds(s), kinds)
		}
		if want == len(s) {
			want = -1
		}
		if Place(s) != want {
			t.Fatalf("Place(%q) = %d, not %d", s, Place(s), want)
		}
	}
}

// P38.1
func TestKinds(t *testing.T) {
	s := "ab\x1b[1;1Hc\x1b[2J\x1b[K\x1b[K\x1b[0m\x1b[?2004h\a\a\a\r\n\nd\x1b[?25h\a"
	want := [9]int{api.OText: 3, api.OMove: 1, api.OErase: 1, api.ORest: 2, api.OLooks: 1, api.OPaste: 1, api.OBell: 3, api.OCR: 1, api.OLF: 2}
	if got := Kinds(s); got != want {
		t.Errorf("%v", got)
	}
	if Kinds("") != [9]int{} || Kinds("\x1b") != [9]int{} {
		t.Error("of none")
	}
}

// P38.2
func TestDangers(t *testing.T) {
	got := Dangers("aé\x1b日\u202e\xC3\u0301\x7f\u00a0а")
	want := []Finding{{3, 27, api.CC0}, {7, 0x202E, api.CBidi}, {10, api.Stray + 0xC3, api.CStray}, {11, 0x301, api.CMark}, {13, 127, api.CDel}, {14, 0xA0, api.CSpace}}
	if !slices.Equal(got, want) {
		t.Errorf("%v", got)
	}
	if len(Dangers("")) != 0 || len(Dangers("abc日а")) != 0 {
		t.Error("of none")
	}
}

// P38.2
func TestObeyed(t *testing.T) {
	if got := Obeyed("a\x1b\x00\x1f \x7f\u0080\u009f\u00a0\x9b\u202e~"); !slices.Equal(got, []int{1, 2, 3, 5, 6, 8}) {
		t.Errorf("%v", got)
	}
	if len(Obeyed("")) != 0 {
		t.Error("of none")
	}
}

// items reads a text as items; a bar is a tick.
func items(s string) []api.Item {
	var l []api.Item
	for _, b := range []byte(s) {
		l = append(l, api.Item{Tick: b == '|', B: b})
	}
	return l
}

// P38.3
func TestTypedPasted(t *testing.T) {
	l := items("a|b\x1b[200~x\r|y\x1b|[201~c\x1b[200~\x1b[201~\x1b[200~open\x1b[201")
	if got := Typed(l...); got != "ab\x1b[200~c\x1b[200~\x1b[200~" {
		t.Errorf("Typed: %q", got)
	}
	if got := Pasted(l...); !slices.Equal(got, []string{"x\ry", ""}) {
		t.Errorf("Pasted: %q", got)
	}
	if Typed() != "" || len(Pasted()) != 0 {
		t.Error("of none")
	}
}

// P38.4
func TestToldApart(t *testing.T) {
	r := rand.New(rand.NewSource(44))
	for range 3000 {
		var l []api.Out
		for range r.Intn(6) {
			o := []api.Out{{Text: "a日"}, {Kind: api.OMove, N: 1 + r.Intn(1000), M: 1 + r.Intn(1000)}, {Kind: api.OErase}, {Kind: api.OLooks, N: r.Intn(8)}, {Kind: api.OBell}, {Kind: api.OCR}, {Kind: api.OLF}, {Text: utf.Encode(r.Intn(0x3000))}}[r.Intn(8)]
			if emit.Check(o) == api.OK {
				l = append(l, o)
			}
		}
		s, _ := emit.Text(l...)
		for _, at := range Obeyed(s) {
			if v, _ := utf.One(s[at:]); v != 7 && v != 10 && v != 13 && v != 27 {
				t.Fatalf("%q at %d", s, at)
			}
		}
		for _, f := range Dangers(s) {
			if f.Class != class.Of(f.V) || f.V != 7 && f.V != 10 && f.V != 13 && f.V != 27 {
				t.Fatalf("%q: %v", s, f)
			}
		}
	}
}
