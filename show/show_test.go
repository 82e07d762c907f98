package show

import (
	"math"
	"slices"
	"strconv"
	"strings"
	"testing"

	"dactyl/api"
	"dactyl/class"
	"dactyl/utf"
)

// P6.1
func TestText(t *testing.T) {
	for v, want := range map[int]string{
		27: "^[", 0: "^@", 31: "^_", 10: "^J", 127: "^?", 'a': "a", ' ': " ", '<': "<", '\\': `\`, 0xE9: "é", 0x4E00: "一", 0x430: "а",
		api.Stray + 195: `\xC3`, api.Stray + 128: `\x80`, api.Stray + 255: `\xFF`, 0x202E: "<U+202E>", 0x85: "<U+0085>", 0xA0: "<U+00A0>", 0x301: "<U+0301>",
		0xAD: "<U+00AD>", 0xE000: "<U+E000>", 0x10FFFF: "<U+10FFFF>", 0x1FFFE: "<U+1FFFE>", -1: "", 0xD800: "", math.MaxInt: "", api.Stray: "",
	} {
		if Text(v) != want {
			t.Errorf("Text(%X) = %q", v, Text(v))
		}
	}
}

// P6.1
func TestCols(t *testing.T) {
	for v, want := range map[int]int{'a': 1, 0x4E00: 2, 0x430: 1, 27: 2, 127: 2, 0x202E: 8, 0x10FFFF: 10, 0x1FFFE: 9, api.Stray + 200: 4, -1: 0, 0xD800: 0} {
		if Cols(v) != want {
			t.Errorf("Cols(%X) = %d", v, Cols(v))
		}
	}
}

// P6.1
func TestTwin(t *testing.T) {
	for _, c := range []struct {
		a, b int
		want bool
	}{
		{0x202E, 0x2066, true}, {7, 10, true}, {7, 127, false}, {'a', 'b', true}, {'a', 0x430, false}, {0x4E00, 0x4E01, true},
		{0xE000, 0x1FFFE, false}, {0xE000, 0xE001, true}, {0x202E, 0x200B, false}, {-1, 0xD800, true}, {-1, 'a', false}, {api.Stray + 128, api.Stray + 129, true},
	} {
		if Twin(c.a, c.b) != c.want || Twin(c.b, c.a) != c.want {
			t.Errorf("Twin(%X, %X)", c.a, c.b)
		}
	}
}

// P6.2
func TestLooks(t *testing.T) {
	for s, want := range map[api.Sign]int{
		{V: 'a'}: 0, {V: 'a', L: api.LQuoted}: 0, {V: 'a', L: api.LPaste}: 2, {V: 'a', L: api.LHist}: 2, {V: 'a', L: api.LCand}: 2, {V: 'a', L: api.LPrompt}: 0,
		{V: 27}: 1, {V: 27, L: api.LPaste}: 3, {V: 0x430}: 4, {V: 0x430, L: api.LCand}: 6, {V: -1, L: api.LPaste}: 2, {V: 'a', L: 6}: 0, {V: 'a', L: -1}: 0,
	} {
		if Looks(s) != want {
			t.Errorf("Looks(%v) = %d", s, Looks(s))
		}
	}
}

// P6.2
func TestCells(t *testing.T) {
	for _, c := range []struct {
		s    api.Sign
		own  int
		want []api.Cell
	}{
		{api.Sign{V: 'a'}, 3, []api.Cell{{V: 'a', Own: 3, Of: 'a'}}},
		{api.Sign{V: 27, L: api.LPaste}, -1, []api.Cell{{V: '^', A: 3, Own: -1, Of: 27}, {V: '[', A: 3, Own: -1, Of: 27, K: 1}}},
		{api.Sign{V: 0x4E00, L: api.LHist}, 0, []api.Cell{{V: 0x4E00, A: 2, Of: 0x4E00}, {V: -1, A: 2, Of: 0x4E00, K: 1}}},
		{api.Sign{V: 0x430}, 9, []api.Cell{{V: 0x430, A: 4, Own: 9, Of: 0x430}}},
		{api.Sign{V: -1}, 9, nil},
		{api.Sign{V: 0xD800}, 9, nil},
	} {
		if got := Cells(c.s, c.own); !slices.Equal(got, c.want) {
			t.Errorf("Cells(%v) = %v", c.s, got)
		}
	}
	for v := -1; v < api.Stray+300; v++ {
		cells := Cells(api.Sign{V: v}, 7)
		if len(cells) != Cols(v) {
			t.Fatalf("%X: %d cells, %d columns", v, len(cells), Cols(v))
		}
		for i, c := range cells {
			if c.Of != v || c.K != i || c.Own != 7 {
				t.Fatalf("%X: %v", v, cells)
			}
		}
	}
}

// P6.2
func TestSame(t *testing.T) {
	a := []api.Cell{{V: 1, A: 2, Own: 3, Of: 4, K: 5}}
	if !Same(a, []api.Cell{{V: 1, A: 2, Own: 9, Of: 9, K: 9}}) || !Same(nil, []api.Cell{}) {
		t.Error("the same")
	}
	if Same(a, nil) || Same(nil, a) || Same(a, []api.Cell{{V: 2, A: 2}}) || Same(a, []api.Cell{{V: 1, A: 3}}) || Same(a, []api.Cell{{V: 1, A: 2}, {}}) {
		t.Error("others")
	}
}

// P6.3
func TestApart(t *testing.T) {
	seen := map[string]int{}
	for v := range api.Stray + 256 {
		if !utf.Right(v) {
			continue
		}
		at := Text(v) + strconv.FormatBool(class.Danger(v))
		if u, ok := seen[at]; ok {
			t.Fatalf("%X and %X are shown alike", u, v)
		}
		seen[at] = v
		if class.Danger(v) && strings.Trim(Text(v), `^?\x<U+>0123456789ABCDEF@[]_GHIJKLMNOPQRSTVWXYZ`) != "" {
			t.Errorf("%X is told by %q", v, Text(v))
		}
	}
}
