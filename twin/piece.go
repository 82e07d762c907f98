package twin

import (
	"strings"

	"dactyl/api"
	"dactyl/num"
	"dactyl/utf"
)

const (
	// told begins a value's digits in a history's text.
	told = `\u`
	// digits is how many these are.
	digits = 6
	// double is one backslash there.
	double = `\\`
)

// piece is a value of a history's text, and how it is written there: by digits, or not.
type piece struct {
	value  int
	text   string
	digits bool
}

// first tells the piece that a history's text begins with.
func first(s string) piece {
	if strings.HasPrefix(s, double) {
		return piece{value: '\\', text: double}
	}
	if end := len(told) + digits; strings.HasPrefix(s, told) && len(s) >= end {
		if v, e := num.Unhex(s[len(told):end]); e == api.OK && utf.Right(v) {
			return piece{value: v, text: s[:end], digits: true}
		}
	}
	v, n := utf.One(s)
	return piece{value: v, text: s[:n]}
}

// pieces tells all pieces of a history's text.
func pieces(s string) []piece {
	var l []piece
	for s != "" {
		p := first(s)
		l = append(l, p)
		s = s[len(p.text):]
	}
	return l
}

// turnPieces turns a history's text.
func turnPieces(s string, v, w int) string {
	var turned strings.Builder
	for _, p := range pieces(s) {
		switch {
		case p.value != v:
			turned.WriteString(p.text)
		case p.digits:
			turned.WriteString(told + num.Hex(w, digits))
		default:
			turned.WriteString(utf.Encode(w))
		}
	}
	return turned.String()
}
