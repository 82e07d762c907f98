package view

import (
	"math"
	"math/rand"
	"slices"
	"testing"

	"dactyl/api"
	"dactyl/show"
	"dactyl/sign"
)

var someValues = []int{'a', 'b', 27, 0, 127, 0x4E00, 0x4E01, 0x430, 0x202E, api.Stray + 200, '^', '[', '\\', 'x', '<', 'U', 0x301}

func some(r *rand.Rand, most int) []api.Sign {
	l := make([]api.Sign, r.Intn(most))
	for i := range l {
		l[i] = api.Sign{V: someValues[r.Intn(len(someValues))], L: r.Intn(6)}
	}
	return l
}

// P7.1
func TestOf(t *testing.T) {
	r := rand.New(rand.NewSource(7))
	for range 500 {
		prompt, line := some(r, 4), some(r, 6)
		var want []api.Cell
		for _, s := range prompt {
			want = append(want, show.Cells(s, -1)...)
		}
		for i, s := range line {
			want = append(want, show.Cells(s, i)...)
		}
		got, e := Of(prompt, line)
		if e != api.OK || !slices.Equal(got, want) {
			t.Fatalf("Of(%v, %v) = %v, %d", prompt, line, got, e)
		}
		if Cols(prompt)+Cols(line) != len(got) {
			t.Fatalf("Cols of %v, %v", prompt, line)
		}
	}
	for _, bad := range []api.Sign{{V: -1}, {V: 'a', L: 6}, {V: 0xD800}} {
		if c, e := Of([]api.Sign{bad}, nil); e != api.ErrArg || c != nil {
			t.Errorf("a prompt of %v: %d", bad, e)
		}
		if c, e := Of(nil, []api.Sign{{V: 'a'}, bad}); e != api.ErrArg || c != nil {
			t.Errorf("a line of %v: %d", bad, e)
		}
	}
	if Cols([]api.Sign{{V: -1}, {V: 'a', L: 9}}) != 1 {
		t.Error("Cols of what may not be")
	}
}

// P7.2
func TestFirstOwn(t *testing.T) {
	c, _ := Of(sign.Of(api.LPrompt, "$"), sign.Of(0, "a\x1bb"))
	for i, want := range map[int]int{math.MinInt: 0, -1: 0, 0: 1, 1: 2, 2: 4, 3: 5, math.MaxInt: 5} {
		if First(c, i) != want {
			t.Errorf("First of %d: %d", i, First(c, i))
		}
	}
	for at, want := range map[int]int{math.MinInt: -1, -1: -1, 0: -1, 1: 0, 2: 1, 3: 1, 4: 2, 5: 3, math.MaxInt: 3} {
		if Own(c, at) != want {
			t.Errorf("Own of %d: %d", at, Own(c, at))
		}
	}
	alone, _ := Of(sign.Of(api.LPrompt, "$"), nil)
	if Own(alone, 1) != 0 || Own(alone, 0) != -1 || Own(nil, 0) != 0 || Own(nil, -3) != 0 || Own(nil, 3) != 0 || First(nil, 0) != 0 {
		t.Error("without a line")
	}
}

// P7.3
func TestText(t *testing.T) {
	c := []api.Cell{{V: 'a'}, {V: 1}, {V: 0}, {V: 0x4E00}, {V: -1}, {V: -9}, {V: 0xD800}, {V: math.MaxInt}, {V: api.Stray + 200}}
	if got := Text(c); got != "a\x01 一\xC8" {
		t.Errorf("%q", got)
	}
	if Text(nil) != "" {
		t.Error("of none")
	}
}

// P7.4
func TestThereAndBack(t *testing.T) {
	r := rand.New(rand.NewSource(8))
	for range 500 {
		prompt, line := some(r, 4), some(r, 8)
		c, _ := Of(prompt, line)
		for i := range line {
			if Own(c, First(c, i)) != i || First(c, i) >= First(c, i+1) {
				t.Fatalf("place %d of %v", i, line)
			}
		}
		if First(c, len(line)) != len(c) || Own(c, len(c)) != len(line) {
			t.Fatalf("the end of %v", line)
		}
	}
}

// P7.5
func TestApart(t *testing.T) {
	r := rand.New(rand.NewSource(9))
	for range 20000 {
		prompt, a, b := some(r, 2), some(r, 4), some(r, 4)
		ca, _ := Of(prompt, a)
		cb, _ := Of(prompt, b)
		if show.Same(ca, cb) && !slices.Equal(sign.Values(a), sign.Values(b)) {
			t.Fatalf("%v and %v are shown alike", a, b)
		}
	}
	told, _ := Of(nil, sign.Of(0, "^["))
	real, _ := Of(nil, sign.Of(0, "\x1b"))
	if show.Same(told, real) {
		t.Error("what is told looks like what was typed")
	}
}
