package core

import (
	"dactyl/api"
	"dactyl/utf"
	"dactyl/word"
)

// about is what a command is done with: the line, the mark, the key, and the count.
type about struct {
	line api.Line
	mark int
	key  api.Key
	n    int
}

// row is a command, and what is done with the text (false: it is refused).
type row struct {
	cmd int
	ops func(a about) ([]api.Op, bool)
}

// table tells what is done with the text by the commands that are about it alone.
func table() []row {
	return []row{
		{api.QSelf, self},
		{api.QPaste, paste},
		{api.QLeft, moves(func(a about) int { return a.line.At - a.n })},
		{api.QRight, moves(func(a about) int { return a.line.At + a.n })},
		{api.QWordLeft, moves(about.wordLeft)},
		{api.QWordRight, moves(about.wordRight)},
		{api.QHome, to(api.EMove, home)},
		{api.QEnd, to(api.EMove, end)},
		{api.QDelete, to(api.EDelete, func(a about) int { return a.n })},
		{api.QBack, to(api.EDelete, func(a about) int { return -a.n })},
		{api.QKillEnd, to(api.EKill, end)},
		{api.QKillHome, to(api.EKill, home)},
		{api.QKillWord, to(api.EKill, about.wordRight)},
		{api.QKillBack, to(api.EKill, about.wordLeft)},
		{api.QKillAll, killAll},
		{api.QUpper, to(api.EUpper, about.wordRight)},
		{api.QLower, to(api.ELower, about.wordRight)},
		{api.QCap, to(api.ECap, about.wordRight)},
		{api.QYank, to(api.EYank, home)},
		{api.QPop, to(api.EPop, home)},
		{api.QSwap, to(api.ESwap, home)},
		{api.QSwapWords, to(api.ESwapWords, home)},
		{api.QUndo, to(api.EUndo, home)},
		{api.QRedo, to(api.ERedo, home)},
		{api.QMark, to(api.EMark, home)},
		{api.QExchange, to(api.EExchange, home)},
		{api.QCopy, to(api.ECopy, about.marked)},
		{api.QKillMark, to(api.EKill, about.marked)},
	}
}

// to makes a function that tells one op of a kind, with a number; of a kind that has none, 0.
func to(kind int, n func(a about) int) func(a about) ([]api.Op, bool) {
	return func(a about) ([]api.Op, bool) { return []api.Op{{Kind: kind, N: n(a)}}, true }
}

// moves makes a function that tells a move to a place; it is refused where the cursor is there.
func moves(place func(a about) int) func(a about) ([]api.Op, bool) {
	return func(a about) ([]api.Op, bool) {
		at := min(max(place(a), 0), len(a.line.S))
		return []api.Op{{Kind: api.EMove, N: at}}, at != a.line.At
	}
}

func home(about) int {
	return 0
}

func end(a about) int {
	return len(a.line.S)
}

func (a about) marked() int {
	return a.mark
}

func (a about) wordLeft() int {
	return a.words(-a.n)
}

func (a about) wordRight() int {
	return a.words(a.n)
}

// words tells the place that is so many words to the right, or, below 0, to the left.
func (a about) words(n int) int {
	at, step := a.line.At, word.Next
	if n < 0 {
		n, step = -n, word.Back
	}
	for range n {
		next := step(a.line.S, at)
		if next == at {
			break
		}
		at = next
	}
	return at
}

// self tells that a key's sign comes, so many times.
func self(a about) ([]api.Op, bool) {
	l := make([]api.Sign, max(a.n, 0))
	for i := range l {
		l[i] = api.Sign{V: a.key.V, L: api.LTyped}
	}
	return []api.Op{{Kind: api.EInsert, S: l}}, true
}

// paste tells that what was pasted comes.
func paste(a about) ([]api.Op, bool) {
	values := utf.Decode(a.key.Text)
	l := make([]api.Sign, len(values))
	for i, v := range values {
		l[i] = api.Sign{V: v, L: api.LPaste}
	}
	return []api.Op{{Kind: api.EInsert, S: l}}, true
}

func killAll(a about) ([]api.Op, bool) {
	return []api.Op{{Kind: api.EMove}, {Kind: api.EKill, N: end(a)}}, true
}
