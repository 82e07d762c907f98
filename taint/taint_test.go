package taint

import (
	"math"
	"math/rand"
	"slices"
	"testing"

	"dactyl/api"
	"dactyl/sign"
)

func some() []api.Sign {
	return []api.Sign{{V: 'a'}, {V: 27}, {V: 0x430, L: api.LQuoted}, {V: 27, L: api.LPaste}, {V: 0x430, L: api.LHist}, {V: 0x202E, L: api.LCand}, {V: 'p', L: api.LPrompt}, {V: 10, L: api.LPaste}}
}

// P43.1
func TestOf(t *testing.T) {
	if got := Of(some()); got != (Report{All: 8, By: [6]int{2, 1, 2, 1, 1, 1}, Danger: 4, Looks: 2, Wild: 3, First: 3}) {
		t.Errorf("%v", got)
	}
	if got := Of(nil); got != (Report{First: -1}) {
		t.Errorf("of none: %v", got)
	}
	if got := Of([]api.Sign{{V: 27}, {V: 'b', L: api.LQuoted}}); got != (Report{All: 2, By: [6]int{1, 1}, Danger: 1, First: -1}) {
		t.Errorf("none is strange: %v", got)
	}
	if got := Of([]api.Sign{{V: -1, L: 6}, {V: 'a', L: -1}, {V: 'a', L: math.MinInt}}); got != (Report{All: 3, First: 0}) {
		t.Errorf("of what may not be: %v", got)
	}
	if got := Of([]api.Sign{{V: api.Stray + 200, L: api.LPrompt}}); got.Wild != 1 || got.First != 0 {
		t.Errorf("of a prompt: %v", got)
	}
}

// P43.1
func TestSafe(t *testing.T) {
	if !Safe(nil) || !Safe([]api.Sign{{V: 27}, {V: 27, L: api.LQuoted}, {V: 'a', L: api.LPaste}, {V: 0x430, L: api.LPaste}}) {
		t.Error("safe")
	}
	if Safe(some()) || Safe([]api.Sign{{V: 0x301, L: api.LCand}}) {
		t.Error("not safe")
	}
}

// P43.2
func TestText(t *testing.T) {
	for want, l := range map[string][]api.Sign{
		"2 typed 1 pasted 1 danger 1 wild 1": {{V: 'a'}, {V: 27, L: api.LPaste}}, "0": nil, "8 typed 2 quoted 1 pasted 2 old 1 offered 1 prompt 1 danger 4 looks 2 wild 3": some(), "1 typed 1 danger 1": {{V: 27}}, "1 old 1 looks 1": {{V: 0x430, L: api.LHist}},
	} {
		if got := Text(Of(l)); got != want {
			t.Errorf("%q, not %q", got, want)
		}
	}
}

// P43.3
func TestOnlyEnds(t *testing.T) {
	l := some()
	if got := Only(l, api.LPaste, api.LTyped, api.LPaste); !sign.Same(got, []api.Sign{l[0], l[1], l[3], l[7]}) {
		t.Errorf("Only: %v", got)
	}
	if len(Only(l)) != 0 || len(Only(l, 9, -1)) != 0 || len(Only(nil, 0)) != 0 {
		t.Error("Only of none")
	}
	Only(l, api.LTyped)[0].V = 'x'
	if l[0].V != 'a' {
		t.Error("signs of its own")
	}
	if got := Ends([]api.Sign{{V: 10}, {V: 10, L: api.LPaste}, {V: 13, L: api.LHist}, {V: 13, L: api.LPaste}, {V: 12, L: api.LPaste}, {V: 10, L: api.LQuoted}}); !slices.Equal(got, []int{1, 3}) {
		t.Errorf("Ends: %v", got)
	}
	if len(Ends(nil)) != 0 {
		t.Error("Ends of none")
	}
}

// P43.4
func TestAllInAll(t *testing.T) {
	r := rand.New(rand.NewSource(47))
	values := []int{'a', 27, 0x430, 0x202E, 0x4E00, api.Stray + 200, 10}
	for range 3000 {
		l := make([]api.Sign, r.Intn(7))
		for i := range l {
			l[i] = api.Sign{V: values[r.Intn(len(values))], L: r.Intn(6)}
		}
		got, sum := Of(l), 0
		for label, n := range got.By {
			sum += n
			if n != len(Only(l, label)) {
				t.Fatalf("%v: %v", l, got)
			}
		}
		if sum != got.All || Safe(l) != (got.Wild == 0) {
			t.Fatalf("%v: %v", l, got)
		}
	}
}
