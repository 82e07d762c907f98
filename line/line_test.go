package line

import (
	"math"
	"math/rand"
	"slices"
	"testing"

	"dactyl/api"
	"dactyl/sign"
	"dactyl/word"
)

func of(text string, at int) api.Line {
	return api.Line{S: sign.Of(api.LTyped, text), At: at}
}

// says tells a line's text, with a bar where the cursor is.
func says(x api.Line) string {
	return sign.Text(x.S[:x.At]) + "|" + sign.Text(x.S[x.At:])
}

func some(r *rand.Rand) api.Line {
	l := make([]api.Sign, r.Intn(9))
	for i := range l {
		l[i] = api.Sign{V: []int{'a', 'B', ' ', ',', 'é', '0'}[r.Intn(6)], L: r.Intn(6)}
	}
	return api.Line{S: l, At: r.Intn(len(l) + 1)}
}

// P17.1
func TestRightSame(t *testing.T) {
	if !Right(of("ab", 0)) || !Right(of("ab", 2)) || !Right(api.Line{}) {
		t.Error("they may be")
	}
	for _, x := range []api.Line{of("ab", -1), of("ab", 3), {At: 1}, {S: []api.Sign{{V: -1}}}, {S: []api.Sign{{V: 'a', L: 6}}}, of("ab", math.MaxInt)} {
		if Right(x) {
			t.Errorf("%v may not be", x)
		}
	}
	if !Same(of("ab", 1), of("ab", 1)) || Same(of("ab", 1), of("ab", 2)) || Same(of("ab", 1), of("ac", 1)) || Same(of("ab", 1), api.Line{S: sign.Of(2, "ab"), At: 1}) || !Same(api.Line{}, of("", 0)) {
		t.Error("Same")
	}
}

// P17.1
func TestInsert(t *testing.T) {
	x := of("ab", 1)
	y := Insert(x, sign.Of(api.LPaste, "xy"))
	if says(y) != "axy|b" || y.S[1].L != api.LPaste || says(x) != "a|b" {
		t.Error(says(y))
	}
	if says(Insert(x, nil)) != "a|b" {
		t.Error("of none")
	}
}

// P17.2
func TestCut(t *testing.T) {
	for _, c := range []struct {
		at, a, b   int
		want, gone string
	}{
		{0, 1, 3, "|ad", "bc"}, {1, 1, 3, "a|d", "bc"}, {2, 3, 1, "a|d", "bc"}, {3, 1, 3, "a|d", "bc"}, {4, 1, 3, "ad|", "bc"}, {4, 0, 9, "|", "abcd"},
		{2, -5, 1, "b|cd", "a"}, {2, 2, 2, "ab|cd", ""}, {4, math.MinInt, math.MaxInt, "|", "abcd"}, {1, 9, 9, "a|bcd", ""},
	} {
		y, gone := Cut(of("abcd", c.at), c.a, c.b)
		if says(y) != c.want || sign.Text(gone) != c.gone {
			t.Errorf("%v: %s, %s", c, says(y), sign.Text(gone))
		}
	}
}

// P17.2
func TestReplace(t *testing.T) {
	for _, c := range []struct {
		a, b int
		want string
	}{{1, 3, "axyz|d"}, {3, 1, "axyz|d"}, {0, 0, "xyz|abcd"}, {4, 9, "abcdxyz|"}, {-3, 9, "xyz|"}} {
		if y := Replace(of("abcd", 2), c.a, c.b, sign.Of(0, "xyz")); says(y) != c.want {
			t.Errorf("%v: %s", c, says(y))
		}
	}
}

// P17.3
func TestCase(t *testing.T) {
	for _, c := range []struct {
		text        string
		at, to, how int
		want        string
	}{
		{"ab cD", 0, 5, 0, "AB CD|"}, {"AB cD", 5, 0, 1, "ab cd|"}, {"ab cD", 0, 5, 2, "Ab Cd|"}, {"ab cD", 1, 5, 2, "ab Cd|"}, {"aB cD", 1, 2, 2, "ab| cD"},
		{"ab", 0, 9, 0, "AB|"}, {"ab", 2, -9, 0, "AB|"}, {"ab", 1, 1, 0, "a|b"}, {"éß", 0, 2, 0, "éß|"}, {"1a _b ,c", 0, 8, 2, "1a _b ,C|"}, {"éa a", 0, 4, 2, "éa A|"},
		{"aB", 0, 2, 3, "aB|"}, {"aB", 0, 2, -1, "aB|"}, {"@[`{az", 0, 6, 0, "@[`{AZ|"}, {"@[`{AZ", 0, 6, 1, "@[`{az|"},
	} {
		x := of(c.text, c.at)
		if y := Case(x, c.to, c.how); says(y) != c.want || sign.Text(x.S) != c.text {
			t.Errorf("%v: %s", c, says(y))
		}
	}
	y := Case(api.Line{S: sign.Of(api.LPaste, "a")}, 1, 0)
	if y.S[0] != (api.Sign{V: 'A', L: api.LPaste}) {
		t.Error("labels stay")
	}
}

// P17.4
func TestSwap(t *testing.T) {
	for _, c := range []struct {
		text string
		at   int
		want string
		ok   bool
	}{{"abc", 1, "ba|c", true}, {"abc", 2, "acb|", true}, {"abc", 3, "acb|", true}, {"abc", 0, "|abc", false}, {"a", 1, "a|", false}, {"", 0, "|", false}, {"ab", 1, "ba|", true}} {
		x := of(c.text, c.at)
		if y, ok := Swap(x); says(y) != c.want || ok != c.ok || sign.Text(x.S) != c.text {
			t.Errorf("%v: %s, %t", c, says(y), ok)
		}
	}
}

// P17.4
func TestSwapWords(t *testing.T) {
	for _, c := range []struct {
		text string
		at   int
		want string
		ok   bool
	}{
		{"ab cd", 2, "cd ab|", true}, {"ab cd", 5, "cd ab|", true}, {"ab cd", 3, "cd ab|", true}, {"ab cd", 0, "|ab cd", false}, {"ab cd ef", 4, "cd ab| ef", true}, {"ab cd ef", 5, "ab ef cd|", true},
		{" a, b. ", 7, " b, a|. ", true}, {"", 0, "|", false}, {"ab", 1, "a|b", false}, {", ,", 1, ",| ,", false}, {"a ,", 3, "a ,|", false},
	} {
		x := of(c.text, c.at)
		if y, ok := SwapWords(x); says(y) != c.want || ok != c.ok || sign.Text(x.S) != c.text {
			t.Errorf("%v: %s, %t", c, says(y), ok)
		}
	}
	r := rand.New(rand.NewSource(23))
	for range 5000 {
		x := some(r)
		s2 := word.Back(x.S, word.Next(x.S, x.At))
		e2, s1 := word.Next(x.S, s2), word.Back(x.S, s2)
		e1 := word.Next(x.S, s1)
		want, ok := x, s1 < s2 && e1 <= s2 && word.Kind(x.S[s1].V) == 1 && s2 < len(x.S) && word.Kind(x.S[s2].V) == 1
		if ok {
			want = api.Line{S: slices.Concat(x.S[:s1], x.S[s2:e2], x.S[e1:s2], x.S[s1:e1], x.S[e2:]), At: e2}
		}
		if y, did := SwapWords(x); did != ok || !Same(y, want) {
			t.Fatalf("%v: %v, %t", x, y, did)
		}
	}
}

// P17.5, and that no call changes a line.
func TestBackAndOwn(t *testing.T) {
	r := rand.New(rand.NewSource(24))
	for range 5000 {
		x := some(r)
		kept := own(x)
		a, b := r.Intn(12)-2, r.Intn(12)-2
		left, gone := Cut(x, a, b)
		left.At = min(max(min(a, b), 0), len(x.S))
		if back := Insert(left, gone); !sign.Same(back.S, x.S) {
			t.Fatalf("%v came back as %v", x, back)
		}
		swapped, _ := Swap(x)
		words, _ := SwapWords(x)
		for _, y := range []api.Line{left, Insert(x, gone), Replace(x, a, b, gone), Case(x, a, r.Intn(3)), swapped, words} {
			if !Right(y) {
				t.Fatalf("%v may not be", y)
			}
			for i := range y.S {
				y.S[i].V = 'z'
			}
			_ = append(y.S[:0:cap(y.S)], sign.Of(0, "qqqqqqqq")[:min(8, cap(y.S))]...)
		}
		if !Same(x, kept) {
			t.Fatalf("%v was changed to %v", kept, x)
		}
	}
}

// R1: a line that may not be ends a call all the same.
func TestWrongLines(t *testing.T) {
	for _, at := range []int{math.MinInt, -1, 3, math.MaxInt} {
		x := of("ab", at)
		Insert(x, sign.Of(0, "x"))
		Cut(x, math.MaxInt, math.MinInt)
		Replace(x, math.MinInt, at, nil)
		Case(x, at, 2)
		Swap(x)
		SwapWords(x)
		Same(x, x)
	}
}
