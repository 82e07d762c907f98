package edit

import (
	"math"
	"math/rand"
	"slices"
	"strings"
	"testing"

	"dactyl/api"
	"dactyl/line"
	"dactyl/sign"
)

func text(t *testing.T, buf int) *Edit {
	t.Helper()
	x, e := New(buf, 3, 20)
	if e != api.OK {
		t.Fatal(e)
	}
	return x
}

func op(kind, n int, s string) api.Op { return api.Op{Kind: kind, N: n, S: sign.Of(0, s)} }

// says tells a line's text, with a bar where the cursor is.
func says(x api.Line) string {
	return sign.Text(x.S[:x.At]) + "|" + sign.Text(x.S[x.At:])
}

// play does ops, all but the last of which have to be done.
func play(t *testing.T, x *Edit, l ...api.Op) bool {
	t.Helper()
	ok := true
	for i, o := range l {
		if !ok {
			t.Fatalf("op %d is refused", i-1)
		}
		ok = x.Do(o)
	}
	return ok
}

// P20.1
func TestNew(t *testing.T) {
	for _, c := range [][3]int{{0, 1, 1}, {api.MaxBuf + 1, 1, 1}, {1, 0, 1}, {1, api.MaxKill + 1, 1}, {1, 1, 0}, {1, 1, api.MaxUndo + 1}, {0, 0, 0}} {
		if x, e := New(c[0], c[1], c[2]); x != nil || e != api.ErrRange {
			t.Errorf("New of %v: %d", c, e)
		}
	}
	x := text(t, 9)
	were, taken := x.Steps()
	if len(x.Line().S) != 0 || x.Line().At != 0 || x.Mark() != 0 || len(x.Kills()) != 0 || were != 0 || taken != 0 {
		t.Error("at first")
	}
	var none *Edit
	none.Clear()
	were, taken = none.Steps()
	if none.Do(op(api.EInsert, 0, "a")) || len(none.Line().S) != 0 || none.Mark() != 0 || len(none.Kills()) != 0 || were != 0 || taken != 0 {
		t.Error("of nil")
	}
}

// P20.2
func TestEach(t *testing.T) {
	insert := op(api.EInsert, 0, "ab cd")
	for _, c := range []struct {
		l    []api.Op
		want string
		ok   bool
	}{
		{[]api.Op{insert}, "ab cd|", true},
		{[]api.Op{op(api.EInsert, 0, "")}, "|", false},
		{[]api.Op{insert, op(api.EInsert, 0, "123456")}, "ab cd|", false},
		{[]api.Op{insert, {Kind: api.EMove, S: []api.Sign{{V: -1}}}}, "ab cd|", false},
		{[]api.Op{insert, op(api.EMove, 2, "")}, "ab| cd", true},
		{[]api.Op{insert, op(api.EMove, math.MinInt, "")}, "|ab cd", true},
		{[]api.Op{insert, op(api.EMove, 5, "")}, "ab cd|", true},
		{[]api.Op{insert, op(api.EMove, 2, ""), op(api.EDelete, 2, "")}, "ab|d", true},
		{[]api.Op{insert, op(api.EMove, 2, ""), op(api.EDelete, math.MaxInt, "")}, "ab|", true},
		{[]api.Op{insert, op(api.EMove, 2, ""), op(api.EDelete, -1, "")}, "a| cd", true},
		{[]api.Op{insert, op(api.EMove, 2, ""), op(api.EDelete, math.MinInt, "")}, "| cd", true},
		{[]api.Op{insert, op(api.EDelete, 1, "")}, "ab cd|", false},
		{[]api.Op{insert, op(api.EDelete, 0, "")}, "ab cd|", false},
		{[]api.Op{insert, op(api.EKill, 3, "")}, "ab |", true},
		{[]api.Op{insert, op(api.EKill, 9, "")}, "ab cd|", false},
		{[]api.Op{insert, op(api.EKill, 3, ""), op(api.EYank, 0, ""), op(api.EYank, 0, "")}, "ab cdcd|", true},
		{[]api.Op{insert, op(api.EYank, 0, "")}, "ab cd|", false},
		{[]api.Op{insert, op(api.EPop, 0, "")}, "ab cd|", false},
		{[]api.Op{insert, op(api.EMove, 1, ""), op(api.ESwap, 0, "")}, "ba| cd", true},
		{[]api.Op{insert, op(api.EMove, 0, ""), op(api.ESwap, 0, "")}, "|ab cd", false},
		{[]api.Op{insert, op(api.ESwapWords, 0, "")}, "cd ab|", true},
		{[]api.Op{insert, op(api.EMove, 0, ""), op(api.ESwapWords, 0, "")}, "|ab cd", false},
		{[]api.Op{insert, op(api.EUpper, 0, "")}, "AB CD|", true},
		{[]api.Op{insert, op(api.EUpper, 5, "")}, "ab cd|", false},
		{[]api.Op{insert, op(api.ECap, -3, "")}, "Ab Cd|", true},
		{[]api.Op{insert, op(api.EUpper, 0, ""), op(api.ELower, 3, "")}, "AB cd|", true},
		{[]api.Op{insert, op(api.EUndo, 0, "")}, "|", true},
		{[]api.Op{op(api.EUndo, 0, "")}, "|", false},
		{[]api.Op{insert, op(api.EUndo, 0, ""), op(api.ERedo, 0, "")}, "ab cd|", true},
		{[]api.Op{insert, op(api.ERedo, 0, "")}, "ab cd|", false},
		{[]api.Op{insert, op(api.EMark, 0, ""), op(api.EMove, 1, ""), op(api.EExchange, 0, ""), op(api.EExchange, 0, "")}, "a|b cd", true},
		{[]api.Op{insert, op(api.ESet, 1, "xyz")}, "x|yz", true},
		{[]api.Op{insert, op(api.ESet, 99, "")}, "|", true},
		{[]api.Op{insert, op(api.ESet, -9, "xyz")}, "|xyz", true},
		{[]api.Op{insert, op(api.ESet, 0, "01234567890")}, "ab cd|", false},
		{[]api.Op{insert, op(api.EMove, 3, ""), op(api.EReplace, 1, "xyz")}, "axyz|cd", true},
		{[]api.Op{insert, op(api.EReplace, 5, "123456")}, "ab cd|", false},
		{[]api.Op{insert, op(api.ECopy, 3, "")}, "ab cd|", true},
		{[]api.Op{insert, op(api.ECopy, 5, "")}, "ab cd|", false},
		{[]api.Op{insert, op(api.ECopy, 3, ""), op(api.EYank, 0, "")}, "ab cdcd|", true},
		{[]api.Op{insert, {Kind: 0}}, "ab cd|", false},
		{[]api.Op{insert, {Kind: 19}}, "ab cd|", false},
		{[]api.Op{insert, {Kind: -1}}, "ab cd|", false},
	} {
		x := text(t, 10)
		if ok := play(t, x, c.l...); ok != c.ok || says(x.Line()) != c.want {
			t.Errorf("%v: %s, %t", c.l, says(x.Line()), ok)
		}
	}
}

// P20.2
func TestKills(t *testing.T) {
	x := text(t, 40)
	kills := func() string {
		var l []string
		for _, k := range x.Kills() {
			l = append(l, sign.Text(k))
		}
		return strings.Join(l, "/")
	}
	play(t, x, op(api.EInsert, 0, "abcdefgh"), op(api.EMove, 4, ""), op(api.EKill, 6, ""), op(api.EKill, 5, ""), op(api.EKill, 3, ""), op(api.EKill, 0, ""))
	if kills() != "abcdefg" || says(x.Line()) != "|h" {
		t.Error("joined", kills(), says(x.Line()))
	}
	// What is refused ahead does not keep a kill from joining.
	if x.Do(op(api.EUpper, 0, "")) || !play(t, x, op(api.EKill, 9, "")) || kills() != "abcdefgh" {
		t.Error("behind what was refused", kills())
	}
	play(t, x, op(api.EInsert, 0, "xy"), op(api.ECopy, 0, ""), op(api.EKill, 1, ""))
	if kills() != "abcdefgh/xy/y" {
		t.Error("a copy is no kill", kills())
	}
	play(t, x, op(api.EInsert, 0, "z"), op(api.EKill, 0, ""))
	if kills() != "xy/y/xz" {
		t.Error("the oldest is lost", kills())
	}
	play(t, x, op(api.EYank, 0, ""), op(api.EPop, 0, ""), op(api.EPop, 0, ""), op(api.EPop, 0, ""), op(api.EPop, 0, ""))
	if says(x.Line()) != "y|" {
		t.Error("the ring turns", says(x.Line()))
	}
	play(t, x, op(api.EMove, 0, ""))
	if x.Do(op(api.EPop, 0, "")) {
		t.Error("nothing was yanked last")
	}
}

// P20.2: a pop that is refused turns nothing.
func TestPopRefused(t *testing.T) {
	x := text(t, 6)
	play(t, x, op(api.EInsert, 0, "abcde"), op(api.EKill, 0, ""), op(api.EInsert, 0, "xyz"), op(api.EMove, 2, ""), op(api.EKill, 3, ""), op(api.EYank, 0, ""))
	if x.Do(op(api.EPop, 0, "")) || says(x.Line()) != "xyz|" {
		t.Error(says(x.Line()))
	}
	if !x.Do(op(api.EYank, 0, "")) || says(x.Line()) != "xyzz|" {
		t.Error("the hand moved", says(x.Line()))
	}
}

// P20.2: a pop that is refused turns nothing, however many texts there are.
func TestPopRefusedOfThree(t *testing.T) {
	x := text(t, 6)
	play(t, x, op(api.EInsert, 0, "b"), op(api.EKill, 0, ""), op(api.EInsert, 0, "acdefg"), op(api.EKill, 0, ""), op(api.EInsert, 0, "xyz"), op(api.EMove, 2, ""), op(api.EKill, 3, ""), op(api.EYank, 0, ""))
	if len(x.Kills()) != 3 || x.Do(op(api.EPop, 0, "")) || !x.Do(op(api.EYank, 0, "")) || says(x.Line()) != "xyzz|" {
		t.Error("the hand moved", says(x.Line()))
	}
}

// P20.2
func TestMark(t *testing.T) {
	x := text(t, 9)
	play(t, x, op(api.EInsert, 0, "abcd"), op(api.EMark, 0, ""), op(api.EMove, 1, ""), op(api.EKill, 3, ""))
	if x.Mark() != 2 {
		t.Error("a mark above the end", x.Mark())
	}
	play(t, x, op(api.EExchange, 0, ""))
	if x.Mark() != 1 || x.Line().At != 2 {
		t.Error("exchanged", x.Mark())
	}
	play(t, x, op(api.EMove, 2, ""), op(api.EMark, 0, ""), op(api.EUndo, 0, ""), op(api.EUndo, 0, ""))
	if x.Mark() != 0 || len(x.Line().S) != 0 {
		t.Error("behind an undo", x.Mark(), says(x.Line()))
	}
}

// P20.2: signs that come one by one are one step.
func TestJoined(t *testing.T) {
	x := text(t, 20)
	play(t, x, op(api.EInsert, 0, "a"), op(api.EInsert, 0, "b"), op(api.EInsert, 0, "c"), op(api.EInsert, 0, "de"), op(api.EInsert, 0, "f"), op(api.EInsert, 0, "g"), op(api.EMove, 0, ""), op(api.EInsert, 0, "h"))
	var seen []string
	for x.Do(op(api.EUndo, 0, "")) {
		seen = append(seen, says(x.Line()))
	}
	if !slices.Equal(seen, []string{"|abcdefg", "abcde|", "abc|", "|"}) {
		t.Errorf("%q", seen)
	}
	if were, taken := x.Steps(); were != 0 || taken != 4 {
		t.Error(were, taken)
	}
}

// P20.3
func TestClear(t *testing.T) {
	x := text(t, 9)
	play(t, x, op(api.EInsert, 0, "ab"), op(api.EMark, 0, ""), op(api.EKill, 1, ""), op(api.EYank, 0, ""))
	x.Clear()
	were, taken := x.Steps()
	if len(x.Line().S) != 0 || x.Mark() != 0 || were != 0 || taken != 0 || len(x.Kills()) != 1 {
		t.Error("cleared")
	}
	if x.Do(op(api.EPop, 0, "")) || x.Do(op(api.EUndo, 0, "")) || !play(t, x, op(api.EInsert, 0, "x"), op(api.EYank, 0, "")) || says(x.Line()) != "xb|" {
		t.Error("behind Clear", says(x.Line()))
	}
	play(t, x, op(api.EKill, 0, ""))
	x.Clear()
	play(t, x, op(api.EInsert, 0, "q"), op(api.EMove, 1, ""))
	x.Clear()
	if play(t, x, op(api.EInsert, 0, "r"), op(api.EKill, 0, "")); len(x.Kills()) != 3 {
		t.Error("a kill behind Clear is one of its own", len(x.Kills()))
	}
}

// someOp tells an op that often can be done.
func someOp(r *rand.Rand) api.Op {
	s := make([]api.Sign, r.Intn(3))
	for i := range s {
		s[i] = api.Sign{V: []int{'a', 'B', ' ', ','}[r.Intn(4)], L: r.Intn(6)}
	}
	return api.Op{Kind: 1 + r.Intn(18), N: r.Intn(14) - 4, S: s}
}

// P20.2, P20.4, and W3: whatever is done, the line may be, within the cap; what is refused changes nothing.
func TestAny(t *testing.T) {
	r := rand.New(rand.NewSource(26))
	for range 2000 {
		most := 1 + r.Intn(12)
		x := text(t, most)
		for range 30 {
			o := someOp(r)
			was, mark, kills := x.Line(), x.Mark(), x.Kills()
			were, taken := x.Steps()
			lastWas := x.last
			ok := x.Do(o)
			now := x.Line()
			if !line.Right(now) || len(now.S) > most || x.Mark() < 0 || x.Mark() > len(now.S) || !line.Same(now, x.trail.Now()) {
				t.Fatalf("%v: %v", o, now)
			}
			is, back := x.Steps()
			if !ok && (!line.Same(was, now) || x.Mark() != mark || !sameAll(kills, x.Kills()) || is != were || back != taken || x.last != lastWas) {
				t.Fatalf("%v was refused, and changed something", o)
			}
			joined := o.Kind == api.EInsert && len(o.S) == 1 && lastWas.one
			if ok && o.Kind != api.EUndo && o.Kind != api.ERedo && !joined && !sign.Same(was.S, now.S) {
				if !x.Do(op(api.EUndo, 0, "")) || !line.Same(x.Line(), was) || !x.Do(op(api.ERedo, 0, "")) || !line.Same(x.Line(), now) {
					t.Fatalf("%v was not taken back: %v, not %v", o, x.Line(), was)
				}
			}
		}
	}
}

func sameAll(a, b [][]api.Sign) bool {
	return slices.EqualFunc(a, b, sign.Same)
}

// R3
func TestOwn(t *testing.T) {
	x := text(t, 9)
	l := sign.Of(0, "ab")
	x.Do(api.Op{Kind: api.EInsert, S: l})
	x.Do(op(api.ECopy, 0, ""))
	l[0].V = 'x'
	x.Line().S[1].V = 'y'
	x.Kills()[0][0].V = 'z'
	if says(x.Line()) != "ab|" || sign.Text(x.Kills()[0]) != "ab" {
		t.Error(says(x.Line()))
	}
}
