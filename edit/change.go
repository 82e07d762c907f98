package edit

import (
	"dactyl/api"
	"dactyl/line"
)

// The ways of line.Case.
const (
	great   = 0
	small   = 1
	capital = 2
)

// change is what a line becomes (false: it is refused), and whether that is joined to the step ahead.
type change struct {
	to   func(x api.Line) (api.Line, bool)
	join bool
}

// always is a change to one line, whatever was.
func always(y api.Line) change {
	return change{to: func(api.Line) (api.Line, bool) { return y, true }}
}

// within tells a place that is one of a line.
func within(x api.Line, at int) int {
	return min(max(at, 0), len(x.S))
}

// change tells what is done with the line alone; false: there is no such kind.
func (t *Edit) change(o api.Op) (change, bool) {
	switch o.Kind {
	case api.EInsert:
		return change{to: inserter(o.S), join: len(o.S) == 1 && t.last.one}, true
	case api.EMove:
		return change{to: mover(o.N)}, true
	case api.EDelete:
		return change{to: deleter(o.N)}, true
	case api.ESwap:
		return change{to: line.Swap}, true
	case api.ESwapWords:
		return change{to: line.SwapWords}, true
	case api.EUpper:
		return change{to: caser(o.N, great)}, true
	case api.ELower:
		return change{to: caser(o.N, small)}, true
	case api.ECap:
		return change{to: caser(o.N, capital)}, true
	case api.ESet:
		x := api.Line{S: o.S}
		x.At = within(x, o.N)
		return always(x), true
	case api.EReplace:
		return change{to: func(x api.Line) (api.Line, bool) { return line.Replace(x, x.At, o.N, o.S), true }}, true
	}
	return change{}, false
}

func inserter(l []api.Sign) func(x api.Line) (api.Line, bool) {
	return func(x api.Line) (api.Line, bool) { return line.Insert(x, l), len(l) > 0 }
}

func mover(to int) func(x api.Line) (api.Line, bool) {
	return func(x api.Line) (api.Line, bool) {
		x.At = within(x, to)
		return x, true
	}
}

func deleter(n int) func(x api.Line) (api.Line, bool) {
	return func(x api.Line) (api.Line, bool) {
		// The number is bounded ahead of the sum, which would leave an int's range.
		to := x.At + min(max(n, -x.At), len(x.S)-x.At)
		left, gone := line.Cut(x, x.At, to)
		return left, len(gone) > 0
	}
}

func caser(to, how int) func(x api.Line) (api.Line, bool) {
	return func(x api.Line) (api.Line, bool) {
		return line.Case(x, to, how), within(x, to) != x.At
	}
}
