package sign

import (
	"math"
	"math/rand"
	"slices"
	"testing"

	"dactyl/api"
	"dactyl/utf"
)

func some(r *rand.Rand, most int) []api.Sign {
	l := make([]api.Sign, r.Intn(most))
	for i := range l {
		l[i] = api.Sign{V: 'a' + r.Intn(2), L: r.Intn(6)}
	}
	return l
}

// P4.1
func TestRightCheck(t *testing.T) {
	for s, want := range map[api.Sign]bool{
		{V: 'a'}: true, {V: 'a', L: 5}: true, {V: 'a', L: 6}: false, {V: 'a', L: -1}: false, {V: -1}: false, {V: 0xD800}: false,
		{V: api.Stray + 128, L: 2}: true, {V: api.Stray + 127, L: 2}: false, {V: 0}: true, {V: math.MaxInt, L: math.MaxInt}: false,
	} {
		if Right(s) != want {
			t.Errorf("Right(%v)", s)
		}
		e := Check([]api.Sign{{V: 'x'}, s, {V: 'y'}})
		if (e == api.OK) != want || (e == api.ErrArg) == want {
			t.Errorf("Check of %v: %d", s, e)
		}
	}
	if Check(nil) != api.OK {
		t.Error("of none")
	}
}

// P4.1, P4.4
func TestOfTextValuesWith(t *testing.T) {
	for _, s := range []string{"", "a", "é\xC3b", "\xFF\x00\uFFFD", "日本"} {
		l := Of(api.LPaste, s)
		if Text(l) != s || !slices.Equal(Values(l), utf.Decode(s)) {
			t.Errorf("of %q: %v", s, l)
		}
		for _, x := range l {
			if x.L != api.LPaste {
				t.Errorf("label of %v", x)
			}
		}
		kept := slices.Clone(l)
		w := With(l, api.LHist)
		if !slices.Equal(Values(w), Values(l)) || !slices.Equal(l, kept) {
			t.Errorf("With of %q", s)
		}
		for _, x := range w {
			if x.L != api.LHist {
				t.Errorf("label of %v", x)
			}
		}
	}
	if got := Of(api.LPaste, "é"); !slices.Equal(got, []api.Sign{{V: 233, L: api.LPaste}}) {
		t.Errorf("the example: %v", got)
	}
	if Text([]api.Sign{{V: 'a', L: 99}, {V: -7}, {V: 'b'}}) != "ab" {
		t.Error("of what may not be")
	}
}

// P4.1
func TestSameStrange(t *testing.T) {
	a := Of(0, "ab")
	if !Same(a, Of(0, "ab")) || !Same(nil, []api.Sign{}) || Same(a, Of(1, "ab")) || Same(a, Of(0, "ac")) || Same(a, Of(0, "a")) || Same(a, Of(0, "abc")) {
		t.Error("Same")
	}
	for label, want := range map[int]bool{api.LTyped: false, api.LQuoted: false, api.LPaste: true, api.LHist: true, api.LCand: true, api.LPrompt: true, -1: false, 6: true} {
		if Strange(api.Sign{V: 'a', L: label}) != want {
			t.Errorf("Strange of label %d", label)
		}
	}
}

// P4.2
func TestRuns(t *testing.T) {
	if len(Runs(nil)) != 0 {
		t.Error("of none")
	}
	got := Runs([]api.Sign{{V: 'a', L: 2}, {V: 'b', L: 2}, {V: 'c', L: 0}, {V: 'd', L: 2}})
	if !slices.Equal(got, []api.Run{{L: 2, From: 0, To: 2}, {L: 0, From: 2, To: 3}, {L: 2, From: 3, To: 4}}) {
		t.Errorf("%v", got)
	}
	r := rand.New(rand.NewSource(4))
	for range 500 {
		l, at := some(r, 9), 0
		runs := Runs(l)
		for i, run := range runs {
			if run.From != at || run.To <= at || i > 0 && runs[i-1].L == run.L {
				t.Fatalf("%v of %v", runs, l)
			}
			for at < run.To {
				if l[at].L != run.L {
					t.Fatalf("%v of %v", runs, l)
				}
				at++
			}
		}
		if at != len(l) {
			t.Fatalf("%v of %v", runs, l)
		}
	}
}

// P4.3
func TestFindBack(t *testing.T) {
	r := rand.New(rand.NewSource(5))
	for range 3000 {
		l, part, from := some(r, 9), some(r, 4), r.Intn(14)-3
		least, most := -1, -1
		for at := 0; at+len(part) <= len(l); at++ {
			if slices.Equal(Values(l[at:at+len(part)]), Values(part)) {
				if at >= from && least < 0 {
					least = at
				}
				if at <= from {
					most = at
				}
			}
		}
		if Find(l, part, from) != least || Back(l, part, from) != most {
			t.Fatalf("%v in %v, %d: %d, %d", part, l, from, Find(l, part, from), Back(l, part, from))
		}
	}
	l := Of(0, "abab")
	if Find(l, Of(1, "ab"), math.MinInt) != 0 || Find(l, Of(1, "ab"), math.MaxInt) != -1 || Back(l, Of(1, "ab"), math.MaxInt) != 2 || Back(l, Of(1, "ab"), math.MinInt) != -1 {
		t.Error("from far away")
	}
	if Find(l, nil, 4) != 4 || Find(l, nil, 5) != -1 || Back(l, nil, 9) != 4 || Back(l, nil, -1) != -1 {
		t.Error("of no values")
	}
}
