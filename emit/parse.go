package emit

import (
	"strings"

	"dactyl/api"
	"dactyl/num"
)

// longest is how many bytes stand between what a piece begins with and its letter, at most.
const longest = len("1000;1000")

// reader makes a function that reads a text's next piece; false: there is none, or none of the grammar. The place that it tells is behind what was read.
func reader(s string) func() (api.Out, int, bool) {
	at := 0
	return func() (api.Out, int, bool) {
		o, n := one(s[at:])
		at += n
		return o, at, n > 0
	}
}

// one reads the piece that a text begins with, and tells of how many bytes it is (0: none).
func one(s string) (api.Out, int) {
	if n := textLen(s); n > 0 {
		return api.Out{Kind: api.OText, Text: s[:n]}, n
	}
	if s == "" {
		return api.Out{}, 0
	}
	switch s[0] {
	case '\a':
		return api.Out{Kind: api.OBell}, 1
	case '\r':
		return api.Out{Kind: api.OCR}, 1
	case '\n':
		return api.Out{Kind: api.OLF}, 1
	}
	if !strings.HasPrefix(s, begin) {
		return api.Out{}, 0
	}
	end := letter(s)
	if end < 0 {
		return api.Out{}, 0
	}
	o, ok := control(s[len(begin):end], s[end])
	// Telling the piece anew refuses each other way of writing it.
	if !ok || Check(o) != api.OK || bytesOf(o) != s[:end+1] {
		return api.Out{}, 0
	}
	return o, end + 1
}

// letter tells where the letter is that a piece ends with; -1: nowhere near enough.
func letter(s string) int {
	for i := len(begin); i < len(s) && i <= len(begin)+longest; i++ {
		if s[i] >= '@' {
			return i
		}
	}
	return -1
}

// control tells which piece a letter is of, and what stands ahead of it.
func control(body string, end byte) (api.Out, bool) {
	switch end {
	case 'H':
		row, col, _ := strings.Cut(body, ";")
		n, e := num.Undec(row)
		m, f := num.Undec(col)
		return api.Out{Kind: api.OMove, N: n, M: m}, e == api.OK && f == api.OK
	case 'J':
		return api.Out{Kind: api.OErase}, true
	case 'K':
		return api.Out{Kind: api.ORest}, true
	case 'm':
		return looksOf(body)
	case 'h':
		return api.Out{Kind: api.OPaste, N: 1}, true
	case 'l':
		return api.Out{Kind: api.OPaste}, true
	}
	return api.Out{}, false
}

// looksOf tells which looks a text says.
func looksOf(body string) (api.Out, bool) {
	for n := range allLooks + 1 {
		if looksText(n) == body {
			return api.Out{Kind: api.OLooks, N: n}, true
		}
	}
	return api.Out{}, false
}

// Parse reads pieces.
func Parse(s string) ([]api.Out, api.Errno) {
	var l []api.Out
	next := reader(s)
	for done := 0; done < len(s); {
		o, at, ok := next()
		if !ok {
			return nil, api.ErrForm
		}
		l, done = append(l, o), at
	}
	return l, api.OK
}

// Clean tells whether a text is of the grammar.
func Clean(s string) bool {
	_, e := Parse(s)
	return e == api.OK
}
