package core

import (
	"dactyl/api"
	"dactyl/edit"
	"dactyl/utf"
	"dactyl/word"
)

// about is what a command is done with: the text, the key, and the count.
type about struct {
	text *edit.Edit
	key  api.Key
	n    int
}

// row is a command, and what is done with the text (false: it is refused).
type row struct {
	cmd int
	ops func(a about) ([]api.Op, bool)
}

// table tells what is done with the text by the commands that are about it alone.
func table() []row {
	return []row{
		{api.QSelf, self},
		{api.QPaste, paste},
		{api.QLeft, moves(func(x api.Line, n int) int { return x.At - n })},
		{api.QRight, moves(func(x api.Line, n int) int { return x.At + n })},
		{api.QWordLeft, moves(wordLeft)},
		{api.QWordRight, moves(wordRight)},
		{api.QHome, to(api.EMove, home)},
		{api.QEnd, to(api.EMove, end)},
		{api.QDelete, to(api.EDelete, func(a about) int { return a.n })},
		{api.QBack, to(api.EDelete, func(a about) int { return -a.n })},
		{api.QKillEnd, to(api.EKill, end)},
		{api.QKillHome, to(api.EKill, home)},
		{api.QKillWord, to(api.EKill, toWord(wordRight))},
		{api.QKillBack, to(api.EKill, toWord(wordLeft))},
		{api.QKillAll, killAll},
		{api.QUpper, to(api.EUpper, toWord(wordRight))},
		{api.QLower, to(api.ELower, toWord(wordRight))},
		{api.QCap, to(api.ECap, toWord(wordRight))},
		{api.QYank, to(api.EYank, home)},
		{api.QPop, to(api.EPop, home)},
		{api.QSwap, to(api.ESwap, home)},
		{api.QSwapWords, to(api.ESwapWords, home)},
		{api.QUndo, to(api.EUndo, home)},
		{api.QRedo, to(api.ERedo, home)},
		{api.QMark, to(api.EMark, home)},
		{api.QExchange, to(api.EExchange, home)},
		{api.QCopy, to(api.ECopy, marked)},
		{api.QKillMark, to(api.EKill, marked)},
	}
}

// to makes a function that tells one op of a kind, with a number; of a kind that has none, 0.
func to(kind int, n func(a about) int) func(a about) ([]api.Op, bool) {
	return func(a about) ([]api.Op, bool) { return []api.Op{{Kind: kind, N: n(a)}}, true }
}

// moves makes a function that tells a move to a place; it is refused where the cursor is there.
func moves(place func(x api.Line, n int) int) func(a about) ([]api.Op, bool) {
	return func(a about) ([]api.Op, bool) {
		x := a.text.Line()
		at := min(max(place(x, a.n), 0), len(x.S))
		return []api.Op{{Kind: api.EMove, N: at}}, at != x.At
	}
}

func home(about) int {
	return 0
}

func end(a about) int {
	return len(a.text.Line().S)
}

func marked(a about) int {
	return a.text.Mark()
}

// toWord makes a function that tells a place among words.
func toWord(place func(x api.Line, n int) int) func(a about) int {
	return func(a about) int { return place(a.text.Line(), a.n) }
}

func wordLeft(x api.Line, n int) int {
	return words(x, -n)
}

func wordRight(x api.Line, n int) int {
	return words(x, n)
}

// words tells the place that is so many words to the right, or, below 0, to the left.
func words(x api.Line, n int) int {
	at, step := x.At, word.Next
	if n < 0 {
		n, step = -n, word.Back
	}
	for range n {
		next := step(x.S, at)
		if next == at {
			break
		}
		at = next
	}
	return at
}

// self tells that a key's sign comes, so many times.
func self(a about) ([]api.Op, bool) {
	l := make([]api.Sign, max(a.n, 0))
	for i := range l {
		l[i] = api.Sign{V: a.key.V, L: api.LTyped}
	}
	return []api.Op{{Kind: api.EInsert, S: l}}, true
}

// paste tells that what was pasted comes.
func paste(a about) ([]api.Op, bool) {
	values := utf.Decode(a.key.Text)
	l := make([]api.Sign, len(values))
	for i, v := range values {
		l[i] = api.Sign{V: v, L: api.LPaste}
	}
	return []api.Op{{Kind: api.EInsert, S: l}}, true
}

func killAll(a about) ([]api.Op, bool) {
	return []api.Op{{Kind: api.EMove}, {Kind: api.EKill, N: end(a)}}, true
}
