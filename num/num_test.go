package num

import (
	"math"
	"math/rand"
	"strconv"
	"strings"
	"testing"

	"dactyl/api"
)

func numbers() []int {
	l := []int{0, 1, -1, 9, 10, -10, 99, 100, math.MaxInt, math.MinInt, math.MaxInt - 1, math.MinInt + 1}
	r := rand.New(rand.NewSource(1))
	for i := 0; i < 500; i++ {
		l = append(l, int(r.Uint64()>>uint(r.Intn(64))), -int(r.Uint64()>>uint(r.Intn(64))))
	}
	return l
}

// P1.1
func TestDec(t *testing.T) {
	for _, n := range numbers() {
		if Dec(n) != strconv.Itoa(n) {
			t.Errorf("Dec(%d) = %s", n, Dec(n))
		}
	}
}

// P1.1
func TestUndecRefuses(t *testing.T) {
	wrong := []string{"", "-", "--1", "-0", "00", "01", "-01", "+1", " 1", "1 ", "1a", "A", "0x1", "١",
		"9223372036854775808", "-9223372036854775809", "18446744073709551616", "18446744073709551617",
		"99999999999999999999999999", "1.0", "1\n", strings.Repeat("0", 30)}
	for _, s := range wrong {
		if n, e := Undec(s); e != api.ErrForm || n != 0 {
			t.Errorf("Undec(%q) = %d, %d", s, n, e)
		}
	}
}

// P1.2
func TestHex(t *testing.T) {
	for _, c := range []struct {
		n, least int
		want     string
	}{
		{173, 4, "00AD"}, {0, 0, "0"}, {0, -5, "0"}, {0, math.MinInt, "0"}, {255, 1, "FF"}, {255, 2, "FF"}, {255, 3, "0FF"},
		{1, 16, "0000000000000001"}, {1, 17, "0000000000000001"}, {1, math.MaxInt, "0000000000000001"},
		{math.MaxInt, 1, "7FFFFFFFFFFFFFFF"}, {-1, 2, ""}, {math.MinInt, 16, ""}, {0xABCDEF, 1, "ABCDEF"},
	} {
		if got := Hex(c.n, c.least); got != c.want {
			t.Errorf("Hex(%d, %d) = %q", c.n, c.least, got)
		}
	}
}

// P1.2
func TestUnhex(t *testing.T) {
	for _, s := range []string{"", "ff", "G", "-1", "+1", " 1", "1 ", "0x1", "0000000000000000", "1000000000000000", "FFFFFFFFFFFFFFFFFF"} {
		if n, e := Unhex(s); e != api.ErrForm || n != 0 {
			t.Errorf("Unhex(%q) = %d, %d", s, n, e)
		}
	}
	for s, want := range map[string]int{"0": 0, "000000000000000": 0, "0010": 16, "FFFFFFFFFFFFFFF": 1<<60 - 1, "1A": 26} {
		if n, e := Unhex(s); e != api.OK || n != want {
			t.Errorf("Unhex(%q) = %d, %d", s, n, e)
		}
	}
}

// P1.3
func TestBack(t *testing.T) {
	for _, n := range numbers() {
		if m, e := Undec(Dec(n)); m != n || e != api.OK {
			t.Errorf("Undec of Dec of %d: %d, %d", n, m, e)
		}
		if n < 0 || n >= 1<<60 {
			continue
		}
		for least := -1; least <= 15; least++ {
			if m, e := Unhex(Hex(n, least)); m != n || e != api.OK {
				t.Errorf("Unhex of Hex of %d: %d, %d", n, m, e)
			}
		}
	}
}
