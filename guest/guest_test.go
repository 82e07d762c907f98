package guest

import (
	"math"
	"slices"
	"testing"

	"dactyl/api"
	"dactyl/sign"
)

func always(a Answer) Guest { return Func(func(api.Line) Answer { return a }) }

func falls(x any) Guest { return Func(func(api.Line) Answer { panic(x) }) }

func texts(l [][]api.Sign) []string {
	var s []string
	for _, x := range l {
		s = append(s, sign.Text(x))
	}
	return s
}

// offers is a guest that is no function, and offers its own text.
type offers struct{ text *string }

func (o offers) Offer(api.Line) Answer { return One{*o.text} }

func here() api.Line { return api.Line{S: sign.Of(0, "ab"), At: 1} }

// P39.1
func TestAsk(t *testing.T) {
	word := "word"
	for name, c := range map[string]struct {
		g    Guest
		want []string
		e    api.Errno
	}{
		"none": {nil, nil, api.ErrNil}, "texts": {always(Texts{[]string{"a", "", "é\xC3"}}), []string{"a", "", "é\xC3"}, api.OK}, "no texts": {always(Texts{}), nil, api.OK}, "one": {always(One{"ab"}), []string{"ab"}, api.OK}, "fail": {always(Fail{api.ErrFull}), nil, api.ErrFull}, "fail of another number": {always(Fail{-7}), nil, -7}, "fail of OK": {always(Fail{}), nil, api.ErrForm}, "nothing": {always(nil), nil, api.ErrForm},
		"falls": {falls("x"), nil, api.ErrWild}, "falls of nil": {falls(nil), nil, api.ErrWild}, "no function": {Func(nil), nil, api.ErrWild}, "no pointer": {offers{}, nil, api.ErrWild}, "another one": {offers{&word}, []string{"word"}, api.OK}, "out of range": {Func(func(x api.Line) Answer { return One{string(rune(x.S[9].V))} }), nil, api.ErrWild},
	} {
		l, e := Ask(c.g, here())
		if e != c.e || !slices.Equal(texts(l), c.want) || e != api.OK && l != nil {
			t.Errorf("%s: %q, %d", name, texts(l), e)
		}
		for _, x := range l {
			if !sign.Same(x, sign.With(x, api.LCand)) {
				t.Errorf("%s: labels: %v", name, x)
			}
		}
	}
}

// P39.1
func TestWrongLines(t *testing.T) {
	asked := false
	g := Func(func(api.Line) Answer { asked = true; return One{"a"} })
	for _, x := range []api.Line{{At: 1}, {At: -1}, {S: []api.Sign{{V: -1}}}, {S: []api.Sign{{L: 6}}}, {At: math.MaxInt}} {
		l, e := Ask(g, x)
		m, f := List(g, x)
		if l != nil || e != api.ErrArg || m != nil || f != api.ErrArg || asked {
			t.Errorf("%v: %d, %d", x, e, f)
		}
		if _, e := Ask(nil, x); e != api.ErrNil {
			t.Error("no guest, and a wrong line", e)
		}
	}
}

// P39.1: the guest gets a line of its own.
func TestOwn(t *testing.T) {
	x := api.Line{S: sign.Of(0, "abcd")[:2], At: 1}
	var kept api.Line
	g := Func(func(y api.Line) Answer {
		if y.At != 1 || sign.Text(y.S) != "ab" {
			t.Errorf("%v", y)
		}
		y.S[0].V = 'x'
		_ = append(y.S, api.Sign{V: 'z'})
		kept = y
		return One{"a"}
	})
	All(x, g, g)
	List(g, x)
	if sign.Text(x.S[:4]) != "abcd" {
		t.Error("the line was changed")
	}
	kept.S[1].V = 'q'
	if sign.Text(x.S) != "ab" {
		t.Error("the line is shared")
	}
	a := []string{"one"}
	l, _ := Ask(always(Texts{a}), x)
	a[0] = "two"
	if sign.Text(l[0]) != "one" {
		t.Error("what was answered is shared")
	}
}

// P39.2
func TestList(t *testing.T) {
	for name, c := range map[string]struct {
		g    Guest
		want []string
		e    api.Errno
	}{
		"none": {nil, nil, api.ErrNil}, "texts": {always(Texts{[]string{"a", "b"}}), []string{"a", "b"}, api.OK}, "no texts": {always(Texts{}), nil, api.OK}, "one": {always(One{"ab"}), nil, api.ErrWild}, "fail": {always(Fail{api.ErrFull}), nil, api.ErrWild}, "fail of OK": {always(Fail{}), nil, api.ErrWild}, "nothing": {always(nil), nil, api.ErrWild}, "falls": {falls(1), nil, api.ErrWild}, "no function": {Func(nil), nil, api.ErrWild},
	} {
		if l, e := List(c.g, here()); e != c.e || !slices.Equal(texts(l), c.want) || e != api.OK && l != nil {
			t.Errorf("%s: %q, %d", name, texts(l), e)
		}
	}
}

// P39.3
func TestAll(t *testing.T) {
	l, errs := All(here(), always(One{"a"}), nil, always(Texts{[]string{"b", "c"}}), falls("x"), always(Fail{api.ErrBig}), always(One{"a"}))
	if !slices.Equal(texts(l), []string{"a", "b", "c", "a"}) || !slices.Equal(errs, []api.Errno{api.OK, api.ErrNil, api.OK, api.ErrWild, api.ErrBig, api.OK}) {
		t.Errorf("%q, %v", texts(l), errs)
	}
	if l, errs := All(here()); len(l) != 0 || len(errs) != 0 {
		t.Error("of none")
	}
	if l, errs := All(api.Line{At: 9}, always(One{"a"}), nil); len(l) != 0 || !slices.Equal(errs, []api.Errno{api.ErrArg, api.ErrNil}) {
		t.Error("of a line that may not be", errs)
	}
}

// P39.1
func TestFunc(t *testing.T) {
	f := Func(func(x api.Line) Answer { return One{sign.Text(x.S)} })
	if a := f.Offer(here()); a != (One{"ab"}) {
		t.Error(a)
	}
}
