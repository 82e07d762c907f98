package key

import (
	"math"
	"strings"
	"testing"

	"dactyl/api"
	"dactyl/utf"
)

// all tells all keys that may be, but for most signs and pastes.
func all() []api.Key {
	var l []api.Key
	for _, v := range []int{32, 33, 59, 60, 61, 'a', '-', 'P', 'C', 'M', 126, 128, 233, 0xFFFF, 0x10000, api.MaxValue, api.Stray + 128, api.Stray + 255} {
		l = append(l, api.Key{Kind: api.KSign, V: v})
	}
	for v := range 128 {
		if v == 10 || v == 13 || v == 27 {
			continue
		}
		if v < 32 {
			l = append(l, api.Key{Kind: api.KCtrl, V: v})
		}
		l = append(l, api.Key{Kind: api.KMeta, V: v})
	}
	l = append(l, api.Key{Kind: api.KEnter, V: 10}, api.Key{Kind: api.KEnter, V: 13})
	for kind := api.KEsc; kind <= api.KPage; kind++ {
		l = append(l, api.Key{Kind: kind})
	}
	for _, text := range []string{"", "a", "\x00\xFF\x1b[201~", strings.Repeat("x", api.MaxPaste)} {
		l = append(l, api.Key{Kind: api.KPaste, Text: text}, api.Key{Kind: api.KPaste, Text: text, Cut: true})
	}
	return append(l, api.Key{Kind: api.KPage, V: 1})
}

func none() []api.Key {
	l := []api.Key{{}, {Kind: api.KSign, V: 31}, {Kind: api.KSign, V: 127}, {Kind: api.KSign, V: 0xD800}, {Kind: api.KSign, V: -1}, {Kind: api.KSign, V: api.Stray}, {Kind: api.KSign, V: math.MaxInt},
		{Kind: api.KCtrl, V: 10}, {Kind: api.KCtrl, V: 13}, {Kind: api.KCtrl, V: 27}, {Kind: api.KCtrl, V: 32}, {Kind: api.KCtrl, V: -1},
		{Kind: api.KMeta, V: 10}, {Kind: api.KMeta, V: 13}, {Kind: api.KMeta, V: 27}, {Kind: api.KMeta, V: 128}, {Kind: api.KMeta, V: -1},
		{Kind: api.KEnter}, {Kind: api.KEnter, V: 1}, {Kind: api.KEsc, V: 27}, {Kind: api.KBack, V: 127}, {Kind: api.KPage, V: 2}, {Kind: api.KPage, V: -1},
		{Kind: api.KPaste, V: 1}, {Kind: api.KPaste, Text: strings.Repeat("x", api.MaxPaste+1)}, {Kind: -1}, {Kind: 16}, {Kind: math.MinInt, V: math.MinInt}}
	for _, k := range all() {
		if k.Kind == api.KPaste {
			continue
		}
		spoilt := k
		spoilt.Text = "x"
		l = append(l, spoilt)
		spoilt = k
		spoilt.Cut = true
		l = append(l, spoilt)
	}
	return l
}

// P13.1, P13.4
func TestCheckNameBack(t *testing.T) {
	seen := map[string]bool{}
	for _, k := range all() {
		name, e := Name(k)
		if Check(k) != api.OK || e != api.OK || name == "" || seen[name] {
			t.Errorf("%v: %q, %d", k, name, e)
		}
		seen[name] = true
		if back, e := Parse(name); back != k || e != api.OK {
			t.Errorf("%q came back as %v, %d", name, back, e)
		}
	}
	for _, k := range none() {
		if name, e := Name(k); Check(k) != api.ErrArg || e != api.ErrArg || name != "" {
			t.Errorf("%v may not be", k)
		}
	}
}

// P13.1
func TestName(t *testing.T) {
	for want, k := range map[string]api.Key{
		"a": {Kind: api.KSign, V: 'a'}, "!": {Kind: api.KSign, V: '!'}, "~": {Kind: api.KSign, V: '~'}, "<20>": {Kind: api.KSign, V: 32}, "<3C>": {Kind: api.KSign, V: '<'}, "<80>": {Kind: api.KSign, V: 128}, "<E9>": {Kind: api.KSign, V: 233}, "<1100C3>": {Kind: api.KSign, V: api.Stray + 195}, ">": {Kind: api.KSign, V: '>'},
		"C-a": {Kind: api.KCtrl, V: 1}, "C-z": {Kind: api.KCtrl, V: 26}, "C-@": {Kind: api.KCtrl}, "C-\\": {Kind: api.KCtrl, V: 28}, "C-]": {Kind: api.KCtrl, V: 29}, "C-^": {Kind: api.KCtrl, V: 30}, "C-_": {Kind: api.KCtrl, V: 31},
		"M-f": {Kind: api.KMeta, V: 'f'}, "M-<7F>": {Kind: api.KMeta, V: 127}, "M-C-h": {Kind: api.KMeta, V: 8}, "M-<3C>": {Kind: api.KMeta, V: '<'}, "M->": {Kind: api.KMeta, V: '>'}, "M-<20>": {Kind: api.KMeta, V: 32}, "M-C-@": {Kind: api.KMeta}, "M-C": {Kind: api.KMeta, V: 'C'},
		"RET": {Kind: api.KEnter, V: 13}, "LFD": {Kind: api.KEnter, V: 10}, "ESC": {Kind: api.KEsc}, "DEL": {Kind: api.KBack}, "UP": {Kind: api.KUp}, "DOWN": {Kind: api.KDown}, "RIGHT": {Kind: api.KRight}, "LEFT": {Kind: api.KLeft}, "HOME": {Kind: api.KHome}, "END": {Kind: api.KEnd}, "DELETE": {Kind: api.KDel}, "PGUP": {Kind: api.KPage}, "PGDN": {Kind: api.KPage, V: 1},
		"P-": {Kind: api.KPaste}, "P-!": {Kind: api.KPaste, Cut: true}, "P-611B": {Kind: api.KPaste, Text: "a\x1b"}, "P-FF!": {Kind: api.KPaste, Text: "\xFF", Cut: true},
	} {
		if name, e := Name(k); name != want || e != api.OK {
			t.Errorf("%v: %q", k, name)
		}
	}
}

// P13.2
func TestParseRefuses(t *testing.T) {
	for _, s := range []string{"", " ", "\x1b", "\x7f", "é", "\xC3", "<", "<>", "<3C", "<61>", "<7F>", "<1F>", "<020>", "<e9>", "<D800>", "<110000>", "<FFFFFFFFFFFFFFF>", "aa", "C-", "C-A", "C-m", "C-j", "C-[", "C-aa", "c-a", "M-", "M-C-", "M-C-m", "M-RET", "M-<61>", "M-<80>", "M-é", "M-ff", "M-C-A", "ret", "RET ", "TAB", "PGUP1", "P", "P-6", "P-6g", "P-aa", "P-!!", "P-61!x", "P- ", "P-616", "P-" + strings.Repeat("61", api.MaxPaste+1)} {
		if s == "P" || s == "<" {
			continue
		}
		if k, e := Parse(s); e != api.ErrForm || k != (api.Key{}) {
			t.Errorf("Parse(%q) = %v, %d", s, k, e)
		}
	}
	if _, e := Parse("<"); e != api.ErrForm {
		t.Error("less has no name but its digits")
	}
	if k, e := Parse("P"); e != api.OK || k.V != 'P' {
		t.Error("P is a sign")
	}
}

// P13.3
func TestBytes(t *testing.T) {
	for want, k := range map[string]api.Key{
		"a": {Kind: api.KSign, V: 'a'}, "é": {Kind: api.KSign, V: 233}, "\xC3": {Kind: api.KSign, V: api.Stray + 195}, "\x01": {Kind: api.KCtrl, V: 1}, "\x00": {Kind: api.KCtrl}, "\x1bf": {Kind: api.KMeta, V: 'f'}, "\x1b\x7f": {Kind: api.KMeta, V: 127},
		"\r": {Kind: api.KEnter, V: 13}, "\n": {Kind: api.KEnter, V: 10}, "\x1b": {Kind: api.KEsc}, "\x7f": {Kind: api.KBack}, "\x1b[A": {Kind: api.KUp}, "\x1b[B": {Kind: api.KDown}, "\x1b[C": {Kind: api.KRight}, "\x1b[D": {Kind: api.KLeft}, "\x1b[H": {Kind: api.KHome}, "\x1b[F": {Kind: api.KEnd},
		"\x1b[3~": {Kind: api.KDel}, "\x1b[5~": {Kind: api.KPage}, "\x1b[6~": {Kind: api.KPage, V: 1}, "\x1b[200~x\x1b[201~": {Kind: api.KPaste, Text: "x"}, "\x1b[200~\x1b[201~": {Kind: api.KPaste, Cut: true},
	} {
		if Bytes(k) != want {
			t.Errorf("%v: %q", k, Bytes(k))
		}
	}
	for _, k := range none() {
		if v, ok := Value(k); Bytes(k) != "" || v != 0 || ok {
			t.Errorf("%v has bytes, or a value", k)
		}
	}
}

// P13.3
func TestValue(t *testing.T) {
	for _, k := range all() {
		v, ok := Value(k)
		want, has := 0, true
		switch k.Kind {
		case api.KSign, api.KCtrl, api.KEnter:
			want = k.V
		case api.KEsc:
			want = 27
		case api.KBack:
			want = 127
		default:
			has = false
		}
		if v != want || ok != has {
			t.Errorf("%v: %d, %t", k, v, ok)
		}
		if ok && Bytes(k) != utf.Encode(v) {
			t.Errorf("%v: %q", k, Bytes(k))
		}
	}
}
