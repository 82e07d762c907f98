package tape

import (
	"strings"

	"dactyl/api"
	"dactyl/num"
)

const (
	// wordBegin begins each word of a text, so that one of no bytes is a word, too.
	wordBegin = "."
	// told begins the digits of a byte.
	told = '\\'
)

// Word tells a text's word.
func Word(s string) string {
	var w strings.Builder
	w.WriteString(wordBegin)
	for i := 0; i < len(s); i++ {
		if b := s[i]; b >= 33 && b <= 126 && b != told {
			w.WriteByte(b)
		} else {
			w.WriteByte(told)
			w.WriteString(num.Hex(int(b), 2))
		}
	}
	return w.String()
}

// Unword reads a text's word.
func Unword(w string) (string, api.Errno) {
	if !strings.HasPrefix(w, wordBegin) {
		return "", api.ErrForm
	}
	var s []byte
	for i := len(wordBegin); i < len(w); i++ {
		if w[i] != told {
			s = append(s, w[i])
			continue
		}
		if i+2 >= len(w) {
			return "", api.ErrForm
		}
		b, e := num.Unhex(w[i+1 : i+3])
		if e != api.OK {
			return "", e
		}
		s = append(s, byte(b))
		i += 2
	}
	// Telling the word anew refuses each other way of writing it.
	if text := string(s); Word(text) == w {
		return text, api.OK
	}
	return "", api.ErrForm
}
