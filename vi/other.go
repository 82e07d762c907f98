package vi

import (
	"dactyl/api"
	"dactyl/sign"
)

// other tells the deed of a letter that is no motion, without an operator.
func other(x api.Line, count, letter int) api.Deed {
	n := len(x.S)
	switch letter {
	case 'x':
		return killed(x, min(x.At+count, n), false)
	case 's':
		return killed(x, min(x.At+count, n), true)
	case 'X':
		return killed(x, max(x.At-count, 0), false)
	case 'D':
		return killed(x, n, false)
	case 'C':
		return killed(x, n, true)
	case 'S':
		return twice(x, 'c')
	case 'i':
		return api.Deed{Cmd: api.QInsert}
	case 'a':
		return api.Deed{Ops: []api.Op{{Kind: api.EMove, N: min(x.At+1, n)}}, Cmd: api.QInsert}
	case 'I':
		return api.Deed{Ops: []api.Op{{Kind: api.EMove, N: firstSign(x)}}, Cmd: api.QInsert}
	case 'A':
		return api.Deed{Ops: []api.Op{{Kind: api.EMove, N: n}}, Cmd: api.QInsert}
	case 'p':
		return api.Deed{Ops: []api.Op{{Kind: api.EMove, N: min(x.At+1, n)}, {Kind: api.EYank}}}
	case 'P':
		return api.Deed{Ops: []api.Op{{Kind: api.EYank}}}
	case 'u':
		return undone(min(count, api.MaxUndo))
	case '~':
		return turned(x, min(count, n-x.At))
	case 'k':
		return api.Deed{Cmd: api.QUp}
	case 'j':
		return api.Deed{Cmd: api.QDown}
	case 'G':
		return api.Deed{Cmd: api.QLast}
	case '/':
		return api.Deed{Cmd: api.QSeek}
	}
	return refused()
}

// killed tells the deed that kills up to a place, and lets signs come from there on, if that is asked for.
func killed(x api.Line, to int, insert bool) api.Deed {
	deed := api.Deed{}
	if insert {
		deed.Cmd = api.QInsert
	}
	if to != x.At {
		deed.Ops = []api.Op{{Kind: api.EKill, N: to}}
	} else if !insert {
		return refused()
	}
	return deed
}

// undone tells the deed that takes steps back.
func undone(count int) api.Deed {
	ops := make([]api.Op, count)
	for i := range ops {
		ops[i].Kind = api.EUndo
	}
	return api.Deed{Ops: ops}
}

// replaced tells the deed that makes signs others of one value.
func replaced(x api.Line, count, v int) api.Deed {
	s := api.Sign{V: v, L: api.LTyped}
	if count > len(x.S)-x.At || !sign.Right(s) {
		return refused()
	}
	l := make([]api.Sign, count)
	for i := range l {
		l[i] = s
	}
	to := x.At + count
	return api.Deed{Ops: []api.Op{{Kind: api.EReplace, N: to, S: l}, {Kind: api.EMove, N: to - 1}}}
}

// turned tells the deed that makes small letters great, and great ones small.
func turned(x api.Line, count int) api.Deed {
	if count == 0 {
		return refused()
	}
	l := make([]api.Sign, count)
	for i, s := range x.S[x.At : x.At+count] {
		switch {
		case s.V >= 'a' && s.V <= 'z':
			s.V += 'A' - 'a'
		case s.V >= 'A' && s.V <= 'Z':
			s.V += 'a' - 'A'
		}
		l[i] = s
	}
	return api.Deed{Ops: []api.Op{{Kind: api.EReplace, N: x.At + count, S: l}}}
}
