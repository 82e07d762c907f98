package whole

import (
	"math/rand"
	"slices"
	"strings"
	"testing"

	"dactyl/api"
	"dactyl/core"
	"dactyl/input"
	"dactyl/sign"
)

// state is a line of lists: signs, and the cursor.
type state struct {
	l  []api.Sign
	at int
}

func (s state) copy() state { return state{slices.Clone(s.l), s.at} }

// model is a line editor of lists, which knows the keys of emacs that the test below types.
type model struct {
	state
	most        int
	were, taken []state
	kills       [][]api.Sign
	hand        int
	last        string
	span        [2]int
	entries     []string
	place       int
	typed       []api.Sign
	done        []string
	bells       int
	sure        bool
	quote       bool
}

// become makes the line another one; joined to the step ahead, if that is said.
func (m *model) become(s state, what string, join bool) bool {
	if len(s.l) > m.most {
		return m.refuse()
	}
	if !slices.Equal(s.l, m.l) {
		if !join || len(m.were) == 0 {
			m.were = append(m.were, m.state.copy())
		}
		m.taken = nil
	}
	m.state, m.last = s.copy(), what
	return true
}

func (m *model) refuse() bool {
	m.bells++
	return false
}

func (m *model) insert(l []api.Sign) bool {
	if len(l) == 0 {
		return m.refuse()
	}
	s := state{slices.Concat(m.l[:m.at], l, m.l[m.at:]), m.at + len(l)}
	what := "some"
	if len(l) == 1 {
		what = "one"
	}
	return m.become(s, what, what == "one" && m.last == "one")
}

// cut makes what is between the cursor and a place go, into the ring, if that is said.
func (m *model) cut(to int, killed bool) {
	a, b := min(m.at, to), max(m.at, to)
	if a == b {
		m.refuse()
		return
	}
	gone := slices.Clone(m.l[a:b])
	if killed {
		n := len(m.kills)
		switch {
		case m.last == "kill" && n > 0 && to > m.at:
			m.kills[n-1] = slices.Concat(m.kills[n-1], gone)
		case m.last == "kill" && n > 0:
			m.kills[n-1] = slices.Concat(gone, m.kills[n-1])
		default:
			m.kills = append(m.kills, gone)
		}
		if len(m.kills) > 4 {
			m.kills = m.kills[1:]
		}
		m.hand = len(m.kills) - 1
	}
	what := "cut"
	if killed {
		what = "kill"
	}
	m.become(state{slices.Concat(m.l[:a], m.l[b:]), a}, what, false)
}

func (m *model) yank() {
	if len(m.kills) == 0 {
		m.refuse()
		return
	}
	l, from := m.kills[m.hand], m.at
	if m.become(state{slices.Concat(m.l[:from], l, m.l[from:]), from + len(l)}, "yank", false) {
		m.span = [2]int{from, from + len(l)}
	}
}

func (m *model) pop() {
	if m.last != "yank" {
		m.refuse()
		return
	}
	hand := (m.hand + len(m.kills) - 1) % len(m.kills)
	l, a, b := m.kills[hand], m.span[0], m.span[1]
	if m.become(state{slices.Concat(m.l[:a], l, m.l[b:]), a + len(l)}, "yank", false) {
		m.hand, m.span = hand, [2]int{a, a + len(l)}
	}
}

func (m *model) undo(from, to *[]state) {
	n := len(*from)
	if n == 0 {
		m.refuse()
		return
	}
	*to = append(*to, m.state.copy())
	m.state, *from, m.last = (*from)[n-1].copy(), (*from)[:n-1], "undo"
}

func (m *model) set(l []api.Sign) {
	m.become(state{l, len(l)}, "set", false)
}

func (m *model) up() {
	if m.place == 0 {
		m.refuse()
		return
	}
	if m.place == len(m.entries) {
		m.typed = slices.Clone(m.l)
	}
	m.place--
	m.set(sign.Of(api.LHist, m.entries[m.place]))
}

func (m *model) down() {
	if m.place == len(m.entries) {
		m.refuse()
		return
	}
	m.place++
	if m.place == len(m.entries) {
		m.set(m.typed)
		return
	}
	m.set(sign.Of(api.LHist, m.entries[m.place]))
}

func (m *model) enter() {
	for _, s := range m.l {
		if s.L == api.LPaste && (s.V == 10 || s.V == 13) && !m.sure {
			m.sure = true
			return
		}
	}
	text := sign.Text(m.l)
	m.done = append(m.done, text)
	if text != "" && len(m.l) <= 40 {
		m.entries = slices.DeleteFunc(m.entries, func(s string) bool { return s == text })
		m.entries = append(m.entries, text)
		if len(m.entries) > 6 {
			m.entries = m.entries[1:]
		}
	}
	m.clear()
}

func (m *model) clear() {
	m.state, m.were, m.taken, m.last, m.sure = state{}, nil, nil, "", false
	m.place, m.typed = len(m.entries), nil
}

func letter(s api.Sign) bool { return s.V == 'a' || s.V == 'b' }

// wordEnd tells where a word ends, to the right, of letters alone.
func (m *model) wordEnd() int {
	p := m.at
	for p < len(m.l) && !letter(m.l[p]) {
		p++
	}
	for p < len(m.l) && letter(m.l[p]) {
		p++
	}
	return p
}

func (m *model) wordBegin() int {
	p := m.at
	for p > 0 && !letter(m.l[p-1]) {
		p--
	}
	for p > 0 && letter(m.l[p-1]) {
		p--
	}
	return p
}

func (m *model) move(to int, must bool) {
	to = min(max(to, 0), len(m.l))
	if must && to == m.at {
		m.refuse()
		return
	}
	m.at, m.last = to, "move"
}

// do does what some bytes are.
func (m *model) do(bytes string) {
	if m.quote {
		m.quote = false
		if len(bytes) != 1 {
			m.refuse()
			return
		}
		m.insert([]api.Sign{{V: int(bytes[0]), L: api.LQuoted}})
		return
	}
	if bytes == "\r" || bytes == "\n" {
		m.enter()
		return
	}
	m.sure = false
	if text, ok := strings.CutPrefix(bytes, "\x1b[200~"); ok {
		m.insert(sign.Of(api.LPaste, strings.TrimSuffix(text, "\x1b[201~")))
		return
	}
	switch bytes {
	case "\x1b[D":
		m.move(m.at-1, true)
	case "\x1b[C":
		m.move(m.at+1, true)
	case "\x01":
		m.move(0, false)
	case "\x05":
		m.move(len(m.l), false)
	case "\x1bf":
		m.move(m.wordEnd(), true)
	case "\x1bb":
		m.move(m.wordBegin(), true)
	case "\x7f":
		m.cut(max(m.at-1, 0), false)
	case "\x1b[3~":
		m.cut(min(m.at+1, len(m.l)), false)
	case "\x0b":
		m.cut(len(m.l), true)
	case "\x15":
		m.cut(0, true)
	case "\x17":
		m.cut(m.wordBegin(), true)
	case "\x1bd":
		m.cut(m.wordEnd(), true)
	case "\x19":
		m.yank()
	case "\x1by":
		m.pop()
	case "\x1f":
		m.undo(&m.were, &m.taken)
	case "\x1br":
		m.undo(&m.taken, &m.were)
	case "\x1b[A":
		m.up()
	case "\x1b[B":
		m.down()
	case "\x11":
		m.quote = true
	case "\x03":
		m.clear()
	default:
		m.insert(sign.Of(api.LTyped, bytes))
	}
}

// W3: what is done, signs, labels, cursor, what was killed, and the history are those of lists.
func TestModel(t *testing.T) {
	r := rand.New(rand.NewSource(50))
	parts := []string{"a", "b", " ", "a", "b", " ", "\x1b[D", "\x1b[C", "\x01", "\x05", "\x1bf", "\x1bb", "\x7f", "\x1b[3~", "\x0b", "\x15", "\x17", "\x17", "\x1bd", "\x1bd", "\x19", "\x19", "\x1by", "\x1by", "\x1f", "\x1f", "\x1br", "\x1b[A", "\x1b[B", "\x11", "\x03", "\r", "\n", "\x1b[200~ab\x1b[201~", "\x1b[200~a\rb\x1b[201~", "\x1b[200~aaaaaaaaaaaa bbbbbbbbbbbbbbb\x1b[201~"}
	lines := 0
	for range 2000 {
		c, _ := core.New(conf())
		in, _ := input.New(40)
		m := &model{most: 60}
		var done []string
		bells := 0
		for range 80 {
			bytes := parts[r.Intn(len(parts))]
			for _, k := range in.Do(sent(bytes)...) {
				for _, v := range c.Do(k) {
					switch v.Kind {
					case api.VAccept:
						done = append(done, sign.Text(v.S))
					case api.VBell:
						bells++
					}
				}
			}
			m.do(bytes)
			var entries []string
			for _, l := range c.Hist() {
				entries = append(entries, sign.Text(l))
			}
			if x := c.Line(); !sign.Same(x.S, m.l) || x.At != m.at || !slices.Equal(done, m.done) || bells != m.bells || !slices.EqualFunc(c.Kills(), m.kills, sign.Same) || !slices.Equal(entries, m.entries) {
				t.Fatalf("behind %q: %v, %q, %d bells, %v, %q, not %v", bytes, x, done, bells, c.Kills(), entries, *m)
			}
			if want := map[bool]int{true: api.MSure, false: api.MInsert}[m.sure]; !m.quote && c.Mode() != want || m.quote && c.Mode() != api.MQuote {
				t.Fatalf("behind %q: mode %d", bytes, c.Mode())
			}
		}
		lines += len(done)
	}
	if lines < 1000 {
		t.Error("too few lines were done")
	}
}
