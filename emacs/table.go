package emacs

import "dactyl/api"

// row is a key's name, and the command that the key asks for.
type row struct {
	name string
	cmd  int
}

// controls tells the keys of control bytes.
func controls() []row {
	return []row{
		{"C-a", api.QHome},
		{"C-b", api.QLeft},
		{"C-c", api.QCancel},
		{"C-d", api.QEof},
		{"C-e", api.QEnd},
		{"C-f", api.QRight},
		{"C-g", api.QCancel},
		{"C-h", api.QBack},
		{"C-i", api.QComplete},
		{"C-k", api.QKillEnd},
		{"C-l", api.QErase},
		{"C-n", api.QDown},
		{"C-p", api.QUp},
		{"C-q", api.QQuote},
		{"C-r", api.QSeek},
		{"C-t", api.QSwap},
		{"C-u", api.QKillHome},
		{"C-v", api.QQuote},
		{"C-w", api.QKillBack},
		{"C-y", api.QYank},
		{"C-@", api.QMark},
		{"C-_", api.QUndo},
	}
}

// metas tells those behind an ESC.
func metas() []row {
	return []row{
		{"M-f", api.QWordRight},
		{"M-b", api.QWordLeft},
		{"M-d", api.QKillWord},
		{"M-<7F>", api.QKillBack},
		{"M-C-h", api.QKillBack},
		{"M-y", api.QPop},
		{"M-t", api.QSwapWords},
		{"M-u", api.QUpper},
		{"M-l", api.QLower},
		{"M-c", api.QCap},
		{"M-<3C>", api.QFirst},
		{"M->", api.QLast},
		{"M-p", api.QPrefix},
		{"M-w", api.QCopy},
		{"M-k", api.QKillMark},
		{"M-x", api.QExchange},
		{"M-r", api.QRedo},
		{"M-a", api.QKillAll},
	}
}

// others tells those of a name of their own.
func others() []row {
	return []row{
		{"RET", api.QEnter},
		{"LFD", api.QEnter},
		{"ESC", api.QCancel},
		{"DEL", api.QBack},
		{"UP", api.QUp},
		{"DOWN", api.QDown},
		{"RIGHT", api.QRight},
		{"LEFT", api.QLeft},
		{"HOME", api.QHome},
		{"END", api.QEnd},
		{"DELETE", api.QDelete},
		{"PGUP", api.QFirst},
		{"PGDN", api.QLast},
	}
}

// names are the commands' names, by their numbers.
var names = [...]string{
	"none", "self", "left", "right", "word-left", "word-right", "home", "end", "delete", "back",
	"kill-end", "kill-home", "kill-word", "kill-back", "kill-all", "yank", "pop", "swap", "swap-words",
	"upper", "lower", "cap", "undo", "redo", "mark", "exchange", "up", "down", "first", "last", "prefix",
	"seek", "complete", "enter", "quote", "cancel", "erase", "eof", "paste", "esc", "copy", "kill-mark",
}
