package vi

import (
	"dactyl/api"
	"dactyl/word"
)

// blank is word.Kind's answer of what is between words.
const blank = 0

// mover makes a function that tells the place that a motion's letter leads to, so many times over; false: it is refused.
func mover(x api.Line, count int) func(letter int) (int, bool) {
	n := len(x.S)
	over := func(step func(at int) int) (int, bool) {
		at := x.At
		for range count {
			next := step(at)
			if next == at {
				break
			}
			at = next
		}
		return at, at != x.At
	}
	return func(letter int) (int, bool) {
		big := letter == 'W' || letter == 'B' || letter == 'E'
		switch letter {
		case 'h':
			return max(x.At-count, 0), x.At > 0
		case 'l':
			return min(x.At+count, n), x.At < n
		case '$':
			return n, true
		case '^':
			return firstSign(x), true
		case '|':
			return min(count-1, n), true
		case 'w', 'W':
			return over(func(at int) int { return word.Start(x.S, at, big) })
		case 'b', 'B':
			return over(func(at int) int { return word.Prev(x.S, at, big) })
		case 'e', 'E':
			return over(func(at int) int { return word.End(x.S, at, big) })
		}
		return 0, true
	}
}

// firstSign tells the place of the first sign that is not blank.
func firstSign(x api.Line) int {
	for at, s := range x.S {
		if word.Kind(s.V) != blank {
			return at
		}
	}
	return len(x.S)
}

// found tells the place that a find leads to; false: there are not so many signs of that value.
func found(x api.Line, count, find, v int) (int, bool) {
	step, less := 1, 0
	switch find {
	case 'F':
		step = -1
	case 't':
		less = 1
	case 'T':
		step, less = -1, -1
	}
	for at := x.At + step; at >= 0 && at < len(x.S); at += step {
		if x.S[at].V != v {
			continue
		}
		count--
		if count == 0 {
			return at - less, true
		}
	}
	return 0, false
}
