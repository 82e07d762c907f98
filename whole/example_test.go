package whole

import (
	"slices"
	"testing"

	"dactyl/api"
	"dactyl/core"
	"dactyl/emit"
	"dactyl/face"
	"dactyl/input"
	"dactyl/key"
	"dactyl/line"
	"dactyl/num"
	"dactyl/port"
	"dactyl/replay"
	"dactyl/show"
	"dactyl/sign"
	"dactyl/utf"
	"dactyl/view"
)

func conf() api.Conf {
	return api.Conf{W: 20, H: 4, Buf: 60, Paste: 40, Kill: 4, Undo: 30, Hist: 6, Entry: 40, Prompt: "$ "}
}

// The ten examples of the whole.
func TestExamples(t *testing.T) {
	if num.Hex(173, 4) != "00AD" {
		t.Error(1)
	}
	if !slices.Equal(utf.Decode("\xC3\xA9\xC3"), []int{233, api.Stray + 195}) {
		t.Error(2)
	}
	if show.Text(27) != "^[" || show.Text(0x202E) != "<U+202E>" {
		t.Error(3)
	}
	if s, _ := port.Screen(sign.Of(api.LPrompt, "$"), sign.Of(0, "ab"), 2, 4, 1); view.Text(s.Rows[0]) != "$ab " || s.Row != 0 || s.Col != 3 {
		t.Error(4)
	}
	if s, _ := emit.Text(api.Out{Kind: api.OMove, N: 2, M: 3}, api.Out{Text: "a"}); s != "\x1b[2;3Ha" {
		t.Error(5)
	}
	in, _ := input.New(9)
	if k := in.Do(append(sent("\x1b[A\x1b"), api.Item{Tick: true})...); len(k) != 2 || k[0].Kind != api.KUp || k[1].Kind != api.KEsc {
		t.Error(6)
	}
	c, _ := core.New(conf())
	c.Do(api.Key{Kind: api.KPaste, Text: "a\r"})
	enter := api.Key{Kind: api.KEnter, V: 13}
	if l := c.Do(enter); len(l) != 0 || c.Mode() != api.MSure || len(c.Line().S) != 2 || c.Line().S[1].L != api.LPaste {
		t.Error(7)
	}
	if l := c.Do(enter); len(l) != 1 || l[0].Kind != api.VAccept {
		t.Error(7)
	}
	if x, ok := line.SwapWords(api.Line{S: sign.Of(0, "ab cd"), At: 2}); !ok || sign.Text(x.S) != "cd ab" {
		t.Error(8)
	}
	search, _ := key.Parse("C-r")
	c.Do(search)
	c.Do(api.Key{Kind: api.KSign, V: 'a'})
	if sign.Text(face.Prompt(c, "$ ")) != "(seek a) " {
		t.Error(9)
	}
	if s, e := replay.Run("conf 20 4 60 40 4 30 6 40 emacs .\nbytes .x\\0D\n"); e != api.OK || s != "hello .\\1B[?2004h\\1B[2J\\1B[1;1H\ntold 0 . 1\naccept\t1\t0x\n" {
		t.Error(10, s)
	}
}
