package tape

import (
	"strings"

	"dactyl/api"
	"dactyl/num"
)

// words is the words of a line that are not read yet, and whether one was none.
type words struct {
	left []string
	bad  bool
}

// reader makes a function that reads a line's next word, as it is.
func reader(line string) (func() string, *words) {
	w := &words{left: strings.Split(line, blank)}
	return func() string {
		if len(w.left) == 0 {
			return "" // which is no word of any kind
		}
		next := w.left[0]
		w.left = w.left[1:]
		return next
	}, w
}

// number reads a word that is a number's digits.
func (w *words) number(next func() string) int {
	n, e := num.Undec(next())
	w.bad = w.bad || e != api.OK
	return n
}

// text reads a word that is a text's.
func (w *words) text(next func() string) string {
	s, e := Unword(next())
	w.bad = w.bad || e != api.OK
	return s
}

// done tells whether all words were read, and each was one.
func (w *words) done() bool {
	return !w.bad && len(w.left) == 0
}

// confOf reads a conf's line.
func confOf(line string) (api.Conf, bool) {
	next, w := reader(line)
	if next() != "conf" {
		return api.Conf{}, false
	}
	f := api.Conf{}
	for _, n := range []*int{&f.W, &f.H, &f.Buf, &f.Paste, &f.Kill, &f.Undo, &f.Hist, &f.Entry} {
		*n = w.number(next)
	}
	keys := next()
	f.Vi = keys == inVi
	f.Prompt = w.text(next)
	return f, w.done() && (f.Vi || keys == inEmacs)
}

// crashOf reads a crash's line.
func crashOf(line string) (api.Crash, bool) {
	next, w := reader(line)
	if next() != "crash" {
		return api.Crash{}, false
	}
	c := api.Crash{At: w.number(next)}
	c.Keep = []byte(w.text(next))
	return c, w.done()
}

// stepOf reads a step's line.
func stepOf(line string) (api.Step, bool) {
	next, w := reader(line)
	x := api.Step{}
	switch next() {
	case "bytes":
		x.Text = w.text(next)
	case "tick":
		x.Kind = api.STick
	case "resize":
		x.Kind = api.SResize
		x.N = w.number(next)
		x.M = w.number(next)
	case "offer":
		x.Kind = api.SOffer
		for len(w.left) > 0 {
			x.L = append(x.L, w.text(next))
		}
	case "load":
		x.Kind = api.SLoad
		if len(w.left) > 0 {
			x.N, x.Text = 1, w.text(next)
		}
	case "save":
		x.Kind = api.SSave
	case "power":
		x.Kind = api.SPower
	default:
		return api.Step{}, false
	}
	return x, w.done()
}

// Parse reads a script's text.
func Parse(text string) (api.Script, api.Errno) {
	if !strings.HasSuffix(text, lineEnd) {
		return api.Script{}, api.ErrForm
	}
	s := api.Script{}
	e := api.OK
lines:
	for i, line := range strings.Split(strings.TrimSuffix(text, lineEnd), lineEnd) {
		if i == 0 {
			f, ok := confOf(line)
			if !ok {
				e = api.ErrLine
				break lines
			}
			s.Conf = f
			continue
		}
		if c, ok := crashOf(line); ok && len(s.Steps) == 0 {
			s.Crashes = append(s.Crashes, c)
			continue
		}
		x, ok := stepOf(line)
		if !ok {
			e = api.ErrLine
			break lines
		}
		s.Steps = append(s.Steps, x)
	}
	if e != api.OK {
		return api.Script{}, e
	}
	return s, api.OK
}
