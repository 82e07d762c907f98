package stat

import (
	"math"
	"math/rand"
	"testing"

	"dactyl/api"
	"dactyl/sign"
)

func of(s string) []api.Sign { return sign.Of(0, s) }

// P41.1
func TestShare(t *testing.T) {
	if Share(1, 4) != 0.25 || Share(-1, 4) != -0.25 || Share(1, 3) != 1.0/3 || Share(0, 5) != 0 || !math.IsInf(Share(1, 0), 1) || !math.IsInf(Share(-1, 0), -1) || !math.IsNaN(Share(0, 0)) || Share(math.MaxInt, 1) != 9223372036854775808.0 {
		t.Error("Share")
	}
}

// P41.1
func TestShares(t *testing.T) {
	got := Shares([]api.Sign{{V: 'a'}, {V: 'b', L: 2}, {V: 'c', L: 2}, {V: 'd', L: 5}})
	if got != [6]float64{0.25, 0, 0.5, 0, 0, 0.25} {
		t.Error(got)
	}
	if got := Shares([]api.Sign{{L: 6}, {L: -1}, {L: math.MinInt}, {L: 1}}); got != [6]float64{0, 0.25} {
		t.Error("other labels", got)
	}
	for _, x := range Shares(nil) {
		if !math.IsNaN(x) {
			t.Error("of none", x)
		}
	}
}

// P41.1
func TestMean(t *testing.T) {
	nan, inf := math.NaN(), math.Inf(1)
	if Mean([]float64{1, 2, 6}) != 3 || Mean([]float64{nan, 2, nan, 4}) != 3 || !math.IsNaN(Mean(nil)) || !math.IsNaN(Mean([]float64{nan, nan})) || Mean([]float64{inf, 1}) != inf || !math.IsNaN(Mean([]float64{inf, -inf})) || Mean([]float64{1e16, 1, -1e16}) != 0 || Mean([]float64{0.1, 0.2, 0.3}) != 0.20000000000000004 {
		t.Error("Mean")
	}
}

// plain tells the distance by the words alone.
func plain(a, b []api.Sign) int {
	switch {
	case len(a) == 0:
		return len(b)
	case len(b) == 0:
		return len(a)
	}
	change := plain(a[1:], b[1:])
	if a[0].V != b[0].V {
		change++
	}
	return min(change, plain(a[1:], b)+1, plain(a, b[1:])+1)
}

func some(r *rand.Rand) []api.Sign {
	l := make([]api.Sign, r.Intn(6))
	for i := range l {
		l[i] = api.Sign{V: 'a' + r.Intn(3), L: r.Intn(6)}
	}
	return l
}

// P41.2, P41.3
func TestDistance(t *testing.T) {
	for _, c := range []struct {
		a, b string
		want int
	}{{"kitten", "sitting", 3}, {"", "", 0}, {"", "abc", 3}, {"abc", "", 3}, {"abc", "abc", 0}, {"flaw", "lawn", 2}, {"ab", "ba", 2}, {"abcdef", "azced", 3}, {"a", "b", 1}} {
		if got := Distance(of(c.a), of(c.b)); got != c.want {
			t.Errorf("%s, %s: %d", c.a, c.b, got)
		}
	}
	if Distance(of("ab"), sign.Of(3, "ab")) != 0 {
		t.Error("labels are not looked at")
	}
	r := rand.New(rand.NewSource(46))
	for range 3000 {
		a, b, c := some(r), some(r), some(r)
		d := Distance(a, b)
		if d != plain(a, b) || d != Distance(b, a) || (d == 0) != sign.Same(sign.With(a, 0), sign.With(b, 0)) || d > Distance(a, c)+Distance(c, b) {
			t.Fatalf("%v, %v: %d", a, b, d)
		}
	}
}

// P41.2
func TestLike(t *testing.T) {
	if Like(of("abcd"), of("abcx")) != 0.75 || Like(of("ab"), of("ab")) != 1 || Like(of("ab"), nil) != 0 || !math.IsNaN(Like(nil, nil)) || Like(of("kitten"), of("sitting")) != 1-3.0/7 {
		t.Error("Like")
	}
}

// P41.2
func TestNearest(t *testing.T) {
	l := [][]api.Sign{of("xyz"), of("abx"), of("aby"), of("abcd")}
	if Nearest(of("abc"), l) != 1 || Nearest(of("abcd"), l) != 3 || Nearest(nil, l) != 0 || Nearest(of("a"), nil) != -1 || Nearest(of("a"), [][]api.Sign{nil}) != 0 {
		t.Error("Nearest")
	}
}
