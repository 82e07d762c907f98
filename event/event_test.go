package event

import (
	"math"
	"math/rand"
	"strings"
	"testing"

	"dactyl/api"
	"dactyl/sign"
)

func good() map[string]api.Event {
	return map[string]api.Event{
		"accept\t1\t0a": {Kind: api.VAccept, S: sign.Of(0, "a"), At: 1}, "accept\t0": {Kind: api.VAccept}, "ask\t0\t2\\u00000D\t0\\\\": {Kind: api.VAsk, S: append(sign.Of(2, "\r"), sign.Of(0, "\\")...)}, "cancel\t2\t5ab\t15": {Kind: api.VCancel, S: append(sign.Of(5, "ab"), sign.Of(1, "5")...), At: 2},
		"bell": {Kind: api.VBell}, "eof": {Kind: api.VEof}, "erase": {Kind: api.VErase}, "accept\t0\t3\\u000009\t4\\u1100C3": {Kind: api.VAccept, S: append(sign.Of(3, "\t"), sign.Of(4, "\xC3")...)},
	}
}

// P33.1, P33.2
func TestText(t *testing.T) {
	for want, v := range good() {
		if s, e := Text(v); s != want || e != api.OK || Check(v) != api.OK {
			t.Errorf("%v: %q, %d", v, s, e)
		}
		if back, e := Parse(want); e != api.OK || !Same([]api.Event{back}, []api.Event{v}) {
			t.Errorf("%q came back as %v, %d", want, back, e)
		}
	}
}

// P33.1
func TestCheckRefuses(t *testing.T) {
	for _, v := range []api.Event{
		{}, {Kind: 7}, {Kind: -1}, {Kind: math.MaxInt}, {Kind: api.VAccept, At: 1}, {Kind: api.VAccept, At: -1}, {Kind: api.VAsk, S: sign.Of(0, "a"), At: 2}, {Kind: api.VCancel, S: []api.Sign{{V: -1}}}, {Kind: api.VCancel, S: []api.Sign{{V: 'a', L: 6}}}, {Kind: api.VAccept, S: []api.Sign{{V: 'a', L: -1}}},
		{Kind: api.VBell, At: 1}, {Kind: api.VBell, S: sign.Of(0, "a")}, {Kind: api.VEof, At: -1}, {Kind: api.VErase, S: sign.Of(0, "a"), At: 1}, {Kind: api.VAccept, At: math.MinInt},
	} {
		s, e := Text(v)
		l, f := Log(api.Event{Kind: api.VBell}, v)
		if Check(v) != api.ErrArg || s != "" || e != api.ErrArg || l != "" || f != api.ErrArg {
			t.Errorf("%v: %d, %d, %d", v, Check(v), e, f)
		}
	}
}

// P33.2
func TestParseRefuses(t *testing.T) {
	for _, s := range []string{"", " ", "accept", "accept\t", "accept\t1", "accept\t-1", "accept\t00", "accept\t0\t", "accept\t0\t0", "accept\t0\t6a", "accept\t0\t0a\t0b", "accept\t2\t0a", "accept\t0\tab", "accept\t0\t0\\u000041", "accept\t0\t0\\", "accept\t0\t0é", "accept\t0\t0\\u00000a", "accept 0", "Accept\t0", "accept\t0\t0a\n", "accept\t0\t0a\t", "accept\t0\t0a\t\t1b", "bell\t", "bell\t0", "bell ", "eof\t0", "erase\t0\t0a", "\tbell", "accept\t9999999999999999999999", "accept\t0\t/a", "accept\t0\t0\\u00D800", "accept\t0\t0\x01"} {
		if v, e := Parse(s); e != api.ErrLine || v.Kind != 0 || v.S != nil || v.At != 0 {
			t.Errorf("Parse(%q) = %v, %d", s, v, e)
		}
	}
}

// P33.1, P33.2
func TestLogRead(t *testing.T) {
	if s, e := Log(); s != "" || e != api.OK {
		t.Error("of none")
	}
	if l, e := Read(""); len(l) != 0 || e != api.OK {
		t.Error("of none")
	}
	if s, _ := Log(api.Event{Kind: api.VBell}, api.Event{Kind: api.VAccept, S: sign.Of(0, "a"), At: 1}); s != "bell\naccept\t1\t0a\n" {
		t.Errorf("%q", s)
	}
	for s, want := range map[string]api.Errno{"bell": api.ErrForm, "bell\neof": api.ErrForm, "x": api.ErrForm, "\n": api.ErrLine, "bell\n\n": api.ErrLine, "bell\nx\n": api.ErrLine, "bell\r\n": api.ErrLine, "x\ny": api.ErrForm} {
		if l, e := Read(s); e != want || l != nil {
			t.Errorf("Read(%q): %d", s, e)
		}
	}
}

// P33.1
func TestSame(t *testing.T) {
	a := []api.Event{{Kind: api.VAccept, S: sign.Of(0, "a"), At: 1}, {Kind: api.VBell}}
	if !Same(a, []api.Event{{Kind: api.VAccept, S: sign.Of(0, "a"), At: 1}, {Kind: api.VBell, S: []api.Sign{}}}) || !Same(nil, []api.Event{}) {
		t.Error("the same")
	}
	for _, b := range [][]api.Event{nil, a[:1], {a[1], a[0]}, {{Kind: api.VAsk, S: a[0].S, At: 1}, a[1]}, {{Kind: api.VAccept, S: a[0].S}, a[1]}, {{Kind: api.VAccept, S: sign.Of(2, "a"), At: 1}, a[1]}, {{Kind: api.VAccept, S: sign.Of(0, "b"), At: 1}, a[1]}, append(a[:2:2], a[1])} {
		if Same(a, b) || Same(b, a) {
			t.Errorf("the same: %v", b)
		}
	}
}

// P33.3
func TestBack(t *testing.T) {
	r := rand.New(rand.NewSource(36))
	values := []int{'a', '\\', '0', '5', 9, 10, 13, 32, 0xE9, api.Stray + 0xC3, api.MaxValue, 0, 'u'}
	for range 3000 {
		l := make([]api.Event, r.Intn(5))
		for i := range l {
			l[i].Kind = 1 + r.Intn(6)
			if l[i].Kind == api.VBell || l[i].Kind == api.VEof || l[i].Kind == api.VErase {
				continue
			}
			for range r.Intn(6) {
				l[i].S = append(l[i].S, api.Sign{V: values[r.Intn(len(values))], L: r.Intn(6)})
			}
			l[i].At = r.Intn(len(l[i].S) + 1)
		}
		s, e := Log(l...)
		back, f := Read(s)
		if e != api.OK || f != api.OK || !Same(back, l) {
			t.Fatalf("%v came back as %v", l, back)
		}
	}
	parts := []string{"accept", "bell", "\t", "0", "1", "2a", "a", "\\u000041", "\\\\", "\\", "ask"}
	for range 50000 {
		var b strings.Builder
		for range r.Intn(8) {
			b.WriteString(parts[r.Intn(len(parts))])
		}
		if v, e := Parse(b.String()); e == api.OK {
			if s, f := Text(v); s != b.String() || f != api.OK {
				t.Fatalf("%q came back as %q", b.String(), s)
			}
		}
	}
}
