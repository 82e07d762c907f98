package input

import (
	"math"
	"math/rand"
	"slices"
	"strings"
	"testing"

	"dactyl/api"
	"dactyl/key"
)

// items reads a text as items; a bar is a tick.
func items(s string) []api.Item {
	var l []api.Item
	for _, b := range []byte(s) {
		if b == '|' {
			l = append(l, api.Item{Tick: true, B: b})
		} else {
			l = append(l, api.Item{B: b})
		}
	}
	return l
}

// names tells the names of the keys that a text is.
func names(t *testing.T, p *Input, s string) string {
	t.Helper()
	var l []string
	for _, k := range p.Do(items(s)...) {
		name, e := key.Name(k)
		if e != api.OK {
			t.Errorf("%v may not be", k)
		}
		l = append(l, name)
	}
	return strings.Join(l, " ")
}

func fresh(t *testing.T, most int) *Input {
	t.Helper()
	p, e := New(most)
	if e != api.OK {
		t.Fatal(e)
	}
	return p
}

// P14.1
func TestNew(t *testing.T) {
	for _, most := range []int{0, -1, api.MaxPaste + 1, math.MinInt, math.MaxInt} {
		if p, e := New(most); p != nil || e != api.ErrRange {
			t.Errorf("New of %d: %d", most, e)
		}
	}
	for _, most := range []int{1, api.MaxPaste} {
		if p := fresh(t, most); p.Waits() || p.Pasting() {
			t.Error("at first nothing waits")
		}
	}
	var p *Input
	if p.Waits() || p.Pasting() || p.Do(api.Item{B: 'a'}) != nil {
		t.Error("of nil")
	}
	for s, want := range map[string][2]bool{"a": {}, "\x1b": {true}, "\x1b|": {}, "\x1b[": {true}, "\x1bO": {true}, "\x1b[1;5": {true}, "\xE6\x97": {true}, "\xE6\x97|": {}, "\x1b[200~": {true, true}, "\x1b[200~|": {true, true}, "\x1b[200~x\x1b[201": {true, true}, "\x1b[200~x\x1b[201~": {}} {
		p := fresh(t, 9)
		p.Do(items(s)...)
		if p.Waits() != want[0] || p.Pasting() != want[1] {
			t.Errorf("behind %q: %t, %t", s, p.Waits(), p.Pasting())
		}
	}
}

// P14.2
func TestDo(t *testing.T) {
	for s, want := range map[string]string{
		"": "", "|": "", "ab": "a b", " ~": "<20> ~", "\x7f": "DEL", "\x00\x01\x1f": "C-@ C-a C-_", "\t": "C-i",
		"\r\n": "RET LFD", "a\r": "a RET", "\x1b\r": "ESC RET", "\x1b[\n": "LFD", "\x1bO\r": "RET", "\x1b[1;\r": "RET", "\xE6\x97\r": "<1100E6> <110097> RET",
		"\x1b": "", "\x1b|": "ESC", "\x1b\x1b": "ESC", "\x1b\x1b|": "ESC ESC", "\x1b[|": "", "\x1bO|": "", "\x1b[12|": "", "\x1b[12\x1b|": "ESC", "\x1bO\x1b|": "ESC", "\xC3\x1b|": "<1100C3> ESC",
		"\x1bf": "M-f", "\x1b\x7f": "M-<7F>", "\x1b\x00": "M-C-@", "\x1b\x08": "M-C-h", "\x1b<": "M-<3C>", "\x1b\xC3\xA9": "ESC <E9>", "\x1b\x80": "ESC <110080>", "\x1b[": "", "\x1bN": "M-N",
		"\x1bOA\x1bOB\x1bOC\x1bOD\x1bOH\x1bOF": "UP DOWN RIGHT LEFT HOME END", "\x1bOPa": "a", "\x1bO1a": "a", "\x1bO?A": "A", "\x1bO\x01": "C-a", "\x1bO\x7f": "DEL", "\x1bO\xC3\xA9": "<E9>", "\x1bO@a": "a", "\x1bO~a": "a", "\x1bO a": "a",
		"\x1b[A\x1b[B\x1b[C\x1b[D\x1b[H\x1b[F": "UP DOWN RIGHT LEFT HOME END", "\x1b[1~\x1b[7~\x1b[4~\x1b[8~\x1b[3~\x1b[5~\x1b[6~": "HOME HOME END END DELETE PGUP PGDN",
		"\x1b[1Aa": "a", "\x1b[2~a": "a", "\x1b[~a": "a", "\x1b[11~a": "a", "\x1b[1;5Ca": "a", "\x1b[Za": "a", "\x1b[@a": "a", "\x1b[ Aa": "a", "\x1b[[a": "a", "\x1b[0003~a": "a", "\x1b[00000000003~a": "a", "\x1b[3333333~a": "a",
		"\x1b[\x01": "C-a", "\x1b[1\x7f": "DEL", "\x1b[\xC3\xA9": "<E9>", "\x1b[1\x80": "<110080>", "\x1b[\x1b[A": "UP",
		"é": "<E9>", "日": "<65E5>", "😀": "<1F600>", "\x80": "<110080>", "\xFF": "<1100FF>", "\xC0\x80": "<1100C0> <110080>", "\xE6\x97": "", "\xE6\x97|": "<1100E6> <110097>", "\xE6\x97a": "<1100E6> <110097> a", "\xE6\xE6\x97\xA5": "<1100E6> <65E5>", "\xE0\x80\x80": "<1100E0> <110080> <110080>", "\xED\xA0\x80": "<1100ED> <1100A0> <110080>", "\xF0\x9F\x98\x41": "<1100F0> <11009F> <110098> A", "\xF4\x90\x80\x80": "<1100F4> <110090> <110080> <110080>", "\xC3|\xA9": "<1100C3> <1100A9>", "\xF5": "<1100F5>",
		"\x1b[200~a\r\x1b[201~b": "P-610D b", "\x1b[200~\x1b[201~": "P-", "\x1b[200~\x1b|[20|1~": "P-", "\x1b[200~\x1b[200~\x1b[201~": "P-1B5B3230307E", "\x1b[200~\x1b\x1b[201~": "P-1B", "\x1b[200~\x1b[20\x1b[201~": "P-1B5B3230", "\x1b[200~\x1b[201\x1b[201~": "P-1B5B323031",
		"\x1b[200~\xE6|\x97\x1b[201~": "P-E697", "\x1b[200~a\x1b[20x1~\x1b[201~": "P-611B5B323078317E", "\x1b[200~\x1b[x201~\x1b[201~": "P-1B5B783230317E", "\x1b[2|00~": "0 0 ~", "\x1b[200~1234567890\x1b[201~a": "P-313233343536373839! a", "\x1b[200~123456789\x1b[201~": "P-313233343536373839", "\x1b[0200~a": "a", "\x1b[201~a": "a",
	} {
		if got := names(t, fresh(t, 9), s); got != want {
			t.Errorf("%q: %q, not %q", s, got, want)
		}
	}
}

// P14.2: a long paste is cut, and its end is seen all the same.
func TestLongPaste(t *testing.T) {
	p := fresh(t, api.MaxPaste)
	body := strings.Repeat("x\x1b[201", api.MaxPaste/7) + "yyyyy"
	for range 2 {
		keys := p.Do(items("\x1b[200~" + body + "\x1b[201~")...)
		if len(keys) != 1 || keys[0].Text != body[:min(len(body), api.MaxPaste)] || keys[0].Cut != (len(body) > api.MaxPaste) {
			t.Fatalf("%d keys", len(keys))
		}
		body += body
	}
}

// P14.3
func TestOf(t *testing.T) {
	got := Of(api.Key{Kind: api.KUp}, api.Key{}, api.Key{Kind: api.KSign, V: 'a'}, api.Key{Kind: api.KSign, V: 27})
	want := []api.Item{{B: 27}, {B: '['}, {B: 'A'}, {Tick: true}, {B: 'a'}, {Tick: true}}
	if !slices.Equal(got, want) {
		t.Errorf("%v", got)
	}
	if len(Of()) != 0 {
		t.Error("of none")
	}
}

func someKey(r *rand.Rand) api.Key {
	for {
		k := api.Key{Kind: 1 + r.Intn(15)}
		switch k.Kind {
		case api.KSign:
			k.V = []int{'a', 'O', '[', 0xE9, 0x65E5, 0x1F600, api.Stray + 0xE6, api.Stray + 0x97, api.Stray + 128 + r.Intn(128)}[r.Intn(9)]
		case api.KPaste:
			k.Text = []string{"", "a\r", "\x1b[201", "\x1b[200~", "\xE6"}[r.Intn(5)]
		case api.KPage:
			k.V = r.Intn(2)
		case api.KCtrl, api.KMeta, api.KEnter:
			k.V = r.Intn(128)
		}
		if key.Check(k) == api.OK && !(k.Kind == api.KMeta && (k.V == 'O' || k.V == '[')) {
			return k
		}
	}
}

// P14.4
func TestBack(t *testing.T) {
	r := rand.New(rand.NewSource(19))
	for range 5000 {
		l := make([]api.Key, r.Intn(6))
		for i := range l {
			l[i] = someKey(r)
		}
		if got := fresh(t, 9).Do(Of(l...)...); !slices.Equal(got, l) {
			t.Fatalf("%v came back as %v", l, got)
		}
	}
}

// P14.5
func TestChunks(t *testing.T) {
	r := rand.New(rand.NewSource(20))
	parts := []string{"\x1b", "[", "O", "A", "200~", "201~", "\x1b[200~", "\x1b[201~", "|", "\xE6", "\x97", "\xA5", "a", "3", "~", "\r", "\x01"}
	for range 5000 {
		var b strings.Builder
		for range r.Intn(15) {
			b.WriteString(parts[r.Intn(len(parts))])
		}
		all := items(b.String())
		whole := fresh(t, 5).Do(all...)
		p := fresh(t, 5)
		var cut []api.Key
		for len(all) > 0 {
			n := 1 + r.Intn(len(all))
			cut = append(cut, p.Do(all[:n]...)...)
			all = all[n:]
		}
		if !slices.Equal(whole, cut) {
			t.Fatalf("%q: %v, %v", b.String(), whole, cut)
		}
		for _, k := range whole {
			if key.Check(k) != api.OK {
				t.Fatalf("%q: %v", b.String(), k)
			}
		}
	}
}
