package word

import (
	"math"
	"math/rand"
	"testing"

	"dactyl/api"
)

func signs(s string) []api.Sign {
	var l []api.Sign
	for _, r := range s {
		l = append(l, api.Sign{V: int(r)})
	}
	return l
}

// P5.1
func TestKind(t *testing.T) {
	for v, want := range map[int]int{9: 0, 10: 0, 13: 0, 32: 0, 0xA0: 0, 0x2028: 0, 0x3000: 0, 'a': 1, 'z': 1, 'A': 1, 'Z': 1, '0': 1, '9': 1, '_': 1,
		0xE9: 1, 0x4E00: 1, 0x430: 1, 0x2010: 1, '-': 2, ',': 2, '@': 2, '[': 2, '`': 2, '{': 2, '/': 2, ':': 2, 0: 2, 11: 2, 12: 2, 27: 2, 127: 2, 0x85: 2, 0x202E: 2, 0xAD: 2, 0x301: 2, 0xE000: 2,
		api.Stray + 200: 2, -1: 2, 0xD800: 2, math.MaxInt: 2, math.MinInt: 2} {
		if Kind(v) != want {
			t.Errorf("Kind(%X) = %d", v, Kind(v))
		}
	}
}

// model tells all calls' answers as the chapter says them, place by place.
type model struct {
	l  []api.Sign
	at int
}

func (m model) kind(p int, big bool) int {
	k := Kind(m.l[p].V)
	if big && k == 2 {
		k = 1
	}
	return k
}

func (m model) word(p int) bool { return p >= 0 && p < len(m.l) && m.kind(p, false) == 1 }

func (m model) least(ok func(p int) bool, otherwise int) int {
	for p := m.at + 1; p <= len(m.l); p++ {
		if ok(p) {
			return p
		}
	}
	return otherwise
}

func (m model) greatest(ok func(p int) bool) int {
	for p := m.at - 1; p >= 0; p-- {
		if ok(p) {
			return p
		}
	}
	return 0
}

func check(t *testing.T, l []api.Sign, at int) {
	t.Helper()
	m := model{l, min(max(at, 0), len(l))}
	if got, want := Next(l, at), m.least(func(p int) bool { return m.word(p-1) && !m.word(p) }, len(l)); got != want {
		t.Errorf("Next(%v, %d) = %d, not %d", l, at, got, want)
	}
	if got, want := Back(l, at), m.greatest(func(p int) bool { return m.word(p) && !m.word(p-1) }); got != want {
		t.Errorf("Back(%v, %d) = %d, not %d", l, at, got, want)
	}
	for _, big := range []bool{false, true} {
		start := m.least(func(p int) bool {
			return p < len(l) && m.kind(p, big) != 0 && m.kind(p, big) != m.kind(p-1, big)
		}, len(l))
		prev := m.greatest(func(p int) bool {
			return m.kind(p, big) != 0 && (p == 0 || m.kind(p, big) != m.kind(p-1, big))
		})
		end := m.least(func(p int) bool {
			return p < len(l) && m.kind(p, big) != 0 && (p == len(l)-1 || m.kind(p, big) != m.kind(p+1, big))
		}, m.at)
		if Start(l, at, big) != start || Prev(l, at, big) != prev || End(l, at, big) != end {
			t.Errorf("%v, %d, %t: %d, %d, %d, not %d, %d, %d", l, at, big, Start(l, at, big), Prev(l, at, big), End(l, at, big), start, prev, end)
		}
	}
	from, to := m.at, m.at
	for m.at < len(l) && from > 0 && m.kind(from-1, false) == m.kind(m.at, false) {
		from--
	}
	for to < len(l) && m.kind(to, false) == m.kind(m.at, false) {
		to++
	}
	if a, b := Around(l, at); a != from || b != to {
		t.Errorf("Around(%v, %d) = %d, %d, not %d, %d", l, at, a, b, from, to)
	}
}

// P5.2, P5.3, P5.4
func TestPlaces(t *testing.T) {
	r := rand.New(rand.NewSource(6))
	for range 3000 {
		l := make([]api.Sign, r.Intn(8))
		for i := range l {
			l[i].V = []int{'a', ' ', ',', 'b', 0x3000, '-'}[r.Intn(6)]
		}
		for at := -2; at <= len(l)+2; at++ {
			check(t, l, at)
		}
	}
	for _, s := range []string{"", " ", "a", ",", "ab, cd", "ab cd"} {
		check(t, signs(s), math.MinInt)
		check(t, signs(s), math.MaxInt)
	}
}

func TestExample(t *testing.T) {
	l := signs("ab,cd")
	if Next(l, 0) != 2 || Start(l, 0, false) != 2 || Start(l, 2, false) != 3 || Start(l, 0, true) != 5 {
		t.Error("the example")
	}
	if a, b := Around(l, 3); a != 3 || b != 5 {
		t.Error("Around", a, b)
	}
	if a, b := Around(l, 5); a != 5 || b != 5 {
		t.Error("Around the end", a, b)
	}
}
