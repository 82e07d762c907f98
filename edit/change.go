package edit

import (
	"dactyl/api"
	"dactyl/line"
)

// The ways of line.Case.
const (
	great   = 0
	small   = 1
	capital = 2
)

// change is what a line becomes (false: it is refused).
type change struct {
	to func(x api.Line) (api.Line, bool)
}

// always is a change to one line, whatever was.
func always(y api.Line) change {
	return change{to: func(api.Line) (api.Line, bool) { return y, true }}
}

// within tells a place that is one of a line.
func within(x api.Line, at int) int {
	return min(max(at, 0), len(x.S))
}

// changeOf tells what is done by letters, and words, and with whole lines; false: nothing, the kind is another one.
func changeOf(o api.Op) (change, bool) {
	switch o.Kind {
	case api.ESwap:
		return change{to: line.Swap}, true
	case api.ESwapWords:
		return change{to: line.SwapWords}, true
	case api.EUpper:
		return change{to: caser(o.N, great)}, true
	case api.ELower:
		return change{to: caser(o.N, small)}, true
	case api.ECap:
		return change{to: caser(o.N, capital)}, true
	case api.ESet:
		x := api.Line{S: o.S}
		x.At = within(x, o.N)
		return always(x), true
	case api.EReplace:
		return change{to: func(x api.Line) (api.Line, bool) { return line.Replace(x, x.At, o.N, o.S), true }}, true
	}
	return change{}, false
}

// caser makes a change of letters up to a place.
func caser(to, how int) func(x api.Line) (api.Line, bool) {
	return func(x api.Line) (api.Line, bool) {
		return line.Case(x, to, how), within(x, to) != x.At
	}
}
