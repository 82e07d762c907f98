package emacs

import (
	"math"
	"os"
	"strings"
	"testing"

	"dactyl/api"
	"dactyl/key"
)

// tableText is what the document says of keys, with names instead of the commands' constants.
const tableText = `C-a home, C-b left, C-c cancel, C-d eof, C-e end, C-f right, C-g cancel, C-h back, C-i complete, C-k kill-end, C-l erase, C-n down, C-p up, C-q quote, C-r seek, C-t swap, C-u kill-home, C-v quote, C-w kill-back, C-y yank, C-@ mark, C-_ undo, M-f word-right, M-b word-left, M-d kill-word, M-<7F> kill-back, M-C-h kill-back, M-y pop, M-t swap-words, M-u upper, M-l lower, M-c cap, M-<3C> first, M-> last, M-p prefix, M-w copy, M-k kill-mark, M-x exchange, M-r redo, M-a kill-all, RET enter, LFD enter, ESC cancel, DEL back, UP up, DOWN down, RIGHT right, LEFT left, HOME home, END end, DELETE delete, PGUP first, PGDN last`

func table() [][2]string {
	var l [][2]string
	for _, s := range strings.Split(tableText, ", ") {
		name, cmd, _ := strings.Cut(s, " ")
		l = append(l, [2]string{name, cmd})
	}
	return l
}

func named(t *testing.T, name string) api.Key {
	t.Helper()
	k, e := key.Parse(name)
	if e != api.OK {
		t.Fatal(name)
	}
	return k
}

// P27.1
func TestCmd(t *testing.T) {
	asks := map[string]string{}
	for _, r := range table() {
		asks[r[0]] = r[1]
	}
	for kind := -1; kind <= 17; kind++ {
		for v := -1; v < 300; v++ {
			k := api.Key{Kind: kind, V: v}
			name, e := key.Name(k)
			want := "none"
			switch {
			case e != api.OK:
			case asks[name] != "":
				want = asks[name]
			case kind == api.KSign:
				want = "self"
			case kind == api.KPaste:
				want = "paste"
			}
			if got, _ := Name(Cmd(k)); got != want {
				t.Errorf("%v: %s, not %s", k, got, want)
			}
		}
	}
	for k, want := range map[api.Key]int{
		{Kind: api.KSign, V: api.Stray + 200}: api.QSelf, {Kind: api.KPaste, Text: "x", Cut: true}: api.QPaste, {Kind: api.KPaste, Text: strings.Repeat("x", api.MaxPaste+1)}: api.QNone,
		{Kind: api.KUp, V: 1}: api.QNone, {Kind: api.KCtrl, V: 11}: api.QKillEnd, {Kind: api.KSign, V: 'a', Cut: true}: api.QNone, {Kind: math.MaxInt}: api.QNone,
	} {
		if Cmd(k) != want {
			t.Errorf("%d is asked for", Cmd(k))
		}
	}
}

// P27.2
func TestNameParse(t *testing.T) {
	for cmd, want := range map[int]string{api.QNone: "none", api.QSelf: "self", api.QWordLeft: "word-left", api.QKillEnd: "kill-end", api.QSwapWords: "swap-words", api.QCap: "cap", api.QUndo: "undo", api.QRedo: "redo", api.QMark: "mark", api.QUp: "up", api.QPrefix: "prefix", api.QSeek: "seek", api.QEnter: "enter", api.QEof: "eof", api.QPaste: "paste", api.QEsc: "esc", api.QCopy: "copy", api.QKillMark: "kill-mark"} {
		if s, e := Name(cmd); s != want || e != api.OK {
			t.Errorf("%d: %s", cmd, s)
		}
	}
	for _, cmd := range []int{-1, 42, 43, math.MinInt, math.MaxInt} {
		if s, e := Name(cmd); s != "" || e != api.ErrRange {
			t.Errorf("%d: %s, %d", cmd, s, e)
		}
	}
	for _, s := range []string{"", " ", "Self", "self ", "kill", "insert", "bell", "kill_end", "none self"} {
		if cmd, e := Parse(s); cmd != 0 || e != api.ErrForm {
			t.Errorf("%q: %d, %d", s, cmd, e)
		}
	}
}

// P27.3, P27.4
func TestKeysBack(t *testing.T) {
	for cmd := -2; cmd < 50; cmd++ {
		name, e := Name(cmd)
		var want []string
		for _, r := range table() {
			if e == api.OK && r[1] == name {
				want = append(want, r[0])
			}
		}
		var got []string
		for _, k := range Keys(cmd) {
			if Cmd(k) != cmd {
				t.Errorf("%v does not ask for %s", k, name)
			}
			s, _ := key.Name(k)
			got = append(got, s)
		}
		if strings.Join(got, " ") != strings.Join(want, " ") {
			t.Errorf("%s: %v, not %v", name, got, want)
		}
		if e == api.OK {
			if back, f := Parse(name); back != cmd || f != api.OK {
				t.Errorf("%s came back as %d", name, back)
			}
		}
	}
	if len(Keys(api.QEsc)) != 0 {
		t.Error("no key asks for esc")
	}
	if k := Keys(api.QKillEnd); len(k) != 1 || k[0] != named(t, "C-k") {
		t.Error("the example")
	}
}

// The table above is to be the document's own, where it lies beside the project.
func TestText(t *testing.T) {
	b, err := os.ReadFile("../../shared/doc/27-emacs.md")
	if err != nil {
		t.Skip("no document here")
	}
	told := strings.NewReplacer(";", ",", " RET, LFD QEnter", " RET QEnter, LFD QEnter").Replace(string(b))
	var want []string
	for _, r := range table() {
		cmd := "Q"
		for _, part := range strings.Split(r[1], "-") {
			cmd += strings.ToUpper(part[:1]) + part[1:]
		}
		want = append(want, r[0]+" "+cmd)
	}
	if !strings.Contains(told, strings.Join(want, ", ")) {
		t.Error("the table is not the document's:", strings.Join(want, ", "))
	}
}
