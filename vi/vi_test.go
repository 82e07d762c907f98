package vi

import (
	"math"
	"math/rand"
	"strconv"
	"strings"
	"testing"

	"dactyl/api"
	"dactyl/key"
	"dactyl/sign"
)

// at reads a line's text, with a bar where the cursor is.
func at(text string) api.Line {
	ahead, behind, _ := strings.Cut(text, "|")
	return api.Line{S: sign.Of(api.LPaste, ahead+behind), At: len(sign.Of(0, ahead))}
}

// keys reads keys' names.
func keys(t *testing.T, names string) []api.Key {
	t.Helper()
	var l []api.Key
	for _, name := range strings.Fields(names) {
		k, e := key.Parse(name)
		if e != api.OK {
			t.Fatal(name)
		}
		l = append(l, k)
	}
	return l
}

// says tells a deed.
func says(d api.Deed) string {
	var l []string
	for _, o := range d.Ops {
		name := map[int]string{api.EMove: "move", api.EKill: "kill", api.ECopy: "copy", api.EYank: "yank", api.EUndo: "undo", api.ERedo: "redo", api.EReplace: "replace"}[o.Kind]
		if o.Kind != api.EYank && o.Kind != api.EUndo && o.Kind != api.ERedo {
			name += strconv.Itoa(o.N)
		}
		if len(o.S) > 0 {
			name += sign.Text(o.S)
		}
		l = append(l, name)
	}
	if d.Cmd != api.QNone {
		name := map[int]string{api.QBell: "BELL", api.QInsert: "INSERT", api.QEnter: "ENTER", api.QUp: "UP", api.QDown: "DOWN", api.QLast: "LAST", api.QSeek: "SEEK", api.QPaste: "PASTE", api.QErase: "ERASE", api.QCancel: "CANCEL"}[d.Cmd]
		l = append(l, name)
	}
	return strings.Join(l, " ")
}

// P28.1
func TestDeeds(t *testing.T) {
	for _, c := range [][3]string{
		{"h", "a|b", "move0"}, {"h", "|ab", "BELL"}, {"9 h", "abc|d", "move0"}, {"LEFT", "ab|c", "move1"}, {"DEL", "ab|c", "move1"},
		{"l", "|ab", "move1"}, {"l", "a|b", "move1"}, {"l", "ab|", "BELL"}, {"9 9 l", "|abc", "move2"}, {"RIGHT", "|ab", "move1"}, {"l", "|", "BELL"},
		{"0", "ab|c", "move0"}, {"HOME", "ab|c", "move0"}, {"1 HOME", "ab|c", "move0"}, {"0", "|", "move0"}, {"$", "|abc", "move2"}, {"END", "|abc", "move2"}, {"$", "|", "move0"}, {"5 $", "|abc", "move2"},
		{"^", "  ab|", "move2"}, {"^", " | ", "move1"}, {"|", "ab|c", "move0"}, {"3 |", "|abcd", "move2"}, {"9 |", "|abcd", "move3"}, {"1 0 |", "|0123456789abc", "move9"},
		{"w", "|ab,cd e", "move2"}, {"W", "|ab,cd e", "move6"}, {"2 w", "|ab,cd e", "move3"}, {"9 w", "|ab cd", "move4"}, {"w", "ab|", "BELL"}, {"w", "a|b", "move1"},
		{"b", "ab,cd| e", "move3"}, {"B", "ab,cd| e", "move0"}, {"3 b", "ab,cd| e", "move0"}, {"b", "|ab", "BELL"}, {"e", "|ab,cd e", "move1"}, {"E", "|ab,cd e", "move4"}, {"2 e", "|ab,cd e", "move2"}, {"e", "a|b", "BELL"}, {"e", "|", "BELL"},
		{"f c", "|abcac", "move2"}, {"2 f c", "|abcac", "move4"}, {"3 f c", "|abcac", "BELL"}, {"f a", "|abc", "BELL"}, {"F a", "abca|c", "move3"}, {"2 F a", "abca|c", "move0"}, {"F c", "ab|c", "BELL"}, {"t c", "|abc", "move1"}, {"t b", "|abc", "move0"}, {"T a", "ab|c", "move1"}, {"T b", "ab|c", "move2"}, {"2 t c", "|abcac", "move3"},
		{"f ESC", "|ab", ""}, {"f LEFT", "|ab", "BELL"}, {"f RET", "|ab", "BELL"}, {"r ESC", "|ab", ""}, {"r DEL", "|ab", "BELL"}, {"f 2", "|ab2", "move2"}, {"2 f d", "|abdd", "move3"},
		{"d w", "|ab cd", "kill3"}, {"2 d w", "|a b c d", "kill4"}, {"d 2 w", "|a b c d", "kill4"}, {"2 d 2 w", "|a b c d e f", "kill8"}, {"d b", "ab cd|", "kill3"}, {"d w", "ab|", "BELL"}, {"d e", "|ab cd", "kill2"}, {"d E", "|a,b c", "kill3"}, {"d e", "a|b", "BELL"}, {"d $", "a|bc", "kill3"}, {"d $", "abc|", "BELL"}, {"d 0", "a|bc", "kill0"}, {"d 0", "|abc", "BELL"}, {"d HOME", "a|bc", "kill0"}, {"d ^", " a|bc", "kill1"}, {"d ^", " |abc", "BELL"}, {"d |", "ab|c", "kill0"}, {"d 2 |", "abc|d", "kill1"}, {"d h", "ab|c", "kill1"}, {"d h", "|ab", "BELL"}, {"d l", "a|b", "kill2"}, {"d f c", "|abc", "kill3"}, {"d t c", "|abc", "kill2"}, {"d t b", "|abc", "kill1"}, {"d F a", "ab|c", "kill0"}, {"d T a", "ab|c", "kill1"}, {"d T b", "ab|c", "BELL"}, {"d f z", "|abc", "BELL"}, {"d 1 0 l", "|0123456789abc", "kill10"},
		{"c w", "|ab cd", "kill3 INSERT"}, {"c w", "ab|", "BELL"}, {"y w", "|ab cd", "copy3 move0"}, {"y b", "ab cd|", "copy3 move3"}, {"y $", "a|bc", "copy3 move1"}, {"y h", "|a", "BELL"},
		{"d d", "a|b", "move0 kill2"}, {"d d", "|", "BELL"}, {"c c", "a|b", "move0 kill2 INSERT"}, {"c c", "|", "INSERT"}, {"y y", "a|b", "move0 copy2 move1"}, {"y y", "|", "BELL"}, {"d c", "a|b", "BELL"}, {"c d", "a|b", "BELL"}, {"y d", "a|b", "BELL"}, {"3 d 4 d", "a|b", "move0 kill2"},
		{"x", "a|bc", "kill2"}, {"2 x", "a|bcd", "kill3"}, {"9 x", "a|bc", "kill3"}, {"x", "ab|", "BELL"}, {"DELETE", "a|bc", "kill2"}, {"X", "ab|c", "kill1"}, {"9 X", "ab|c", "kill0"}, {"X", "|ab", "BELL"}, {"D", "a|bc", "kill3"}, {"D", "ab|", "BELL"}, {"d x", "a|b", "BELL"}, {"d DELETE", "a|b", "BELL"},
		{"s", "a|bc", "kill2 INSERT"}, {"s", "ab|", "INSERT"}, {"C", "a|bc", "kill3 INSERT"}, {"C", "ab|", "INSERT"}, {"S", "a|b", "move0 kill2 INSERT"}, {"S", "|", "INSERT"}, {"d S", "a|b", "BELL"}, {"c s", "a|b", "BELL"},
		{"i", "a|b", "INSERT"}, {"a", "a|b", "move2 INSERT"}, {"a", "|abc", "move1 INSERT"}, {"p", "|abc", "move1 yank"}, {"9 ~", "|azAZ@[`{", "replace8AZaz@[`{"}, {"f a", "|ba", "move1"}, {"F a", "a|b", "move0"}, {"a", "ab|", "move2 INSERT"}, {"a", "|", "move0 INSERT"}, {"I", "  a|b", "move2 INSERT"}, {"A", "a|b", "move2 INSERT"}, {"d i", "ab|", "BELL"},
		{"p", "a|b", "move2 yank"}, {"p", "ab|", "move2 yank"}, {"P", "a|b", "yank"}, {"u", "a|b", "undo"}, {"3 u", "a|b", "undo undo undo"}, {"d u", "a|b", "BELL"},
		{"r x", "a|bc", "replace2x move1"}, {"2 r x", "a|bc", "replace3xx move2"}, {"3 r x", "a|bc", "BELL"}, {"r x", "ab|", "BELL"}, {"d r", "a|b", "BELL"}, {"r <E9>", "|a", "replace1é move0"},
		{"~", "a|bC", "replace2B"}, {"2 ~", "a|bC", "replace3Bc"}, {"9 ~", "|a1B", "replace3A1b"}, {"~", "ab|", "BELL"}, {"d ~", "a|b", "BELL"},
		{"k", "a|b", "UP"}, {"j", "a|b", "DOWN"}, {"G", "a|b", "LAST"}, {"/", "a|b", "SEEK"}, {"UP", "a|b", "UP"}, {"DOWN", "a|b", "DOWN"}, {"RET", "a|b", "ENTER"}, {"LFD", "a|b", "ENTER"}, {"P-61", "a|b", "PASTE"}, {"ESC", "a|b", ""}, {"d k", "a|b", "BELL"}, {"d RET", "a|b", "ENTER"}, {"d ESC", "a|b", ""}, {"2 UP", "a|b", "UP"},
		{"C-l", "a|b", "ERASE"}, {"C-c", "a|b", "CANCEL"}, {"C-g", "a|b", "CANCEL"}, {"C-r", "a|b", "redo"}, {"2 C-r", "a|b", "redo"}, {"C-a", "a|b", "BELL"}, {"M-f", "a|b", "BELL"}, {"PGUP", "a|b", "BELL"}, {"C-h", "a|b", "BELL"}, {"C-d", "a|b", "BELL"},
		{"z", "a|b", "BELL"}, {"H", "a|b", "BELL"}, {"<20>", "a|b", "BELL"}, {":", "a|b", "BELL"}, {"<E9>", "a|b", "BELL"}, {"d z", "a|b", "BELL"},
		{"z x", "a|bc", "kill2"}, {"d z x", "a|bc", "kill2"}, {"3 ESC x", "a|bcde", "kill2"}, {"2 z x", "a|bcde", "kill2"}, {"d f z x", "a|bc", "kill2"}, {"2 0 x", "|abcdefghijklmnopqrstuvwxyz", "kill20"},
	} {
		v, x := New(), at(c[1])
		var got string
		for _, k := range keys(t, c[0]) {
			got = says(v.Do(k, x))
		}
		if got != c[2] || v.Waits() {
			t.Errorf("%s on %s: %q, not %q (waits: %t)", c[0], c[1], got, c[2], v.Waits())
		}
	}
}

// P28.1
func TestCounts(t *testing.T) {
	v, x := New(), api.Line{S: make([]api.Sign, 20000)}
	for _, k := range keys(t, "9 9 9 9 9 9 l") {
		v.Do(k, api.Line{S: x.S})
	}
	for _, c := range [][2]string{{"9 9 9 9 9 l", "move9999"}, {"1 0 0 d 2 0 0 l", "kill9999"}, {"9 9 9 9 d 9 9 9 9 l", "kill9999"}, {"d 9 9 9 9 9 9 9 l", "kill9999"}} {
		var got string
		for _, k := range keys(t, c[0]) {
			got = says(v.Do(k, x))
		}
		if got != c[1] {
			t.Errorf("%s: %s", c[0], got)
		}
	}
	var d api.Deed
	for _, k := range keys(t, "9 9 9 9 u") {
		d = v.Do(k, x)
	}
	if len(d.Ops) != api.MaxUndo {
		t.Errorf("%d undos", len(d.Ops))
	}
}

// P28.1
func TestWaits(t *testing.T) {
	for names, want := range map[string]bool{"": false, "2": true, "0": false, "d": true, "f": true, "r": true, "d 2": true, "d f": true, "2 d w": false, "2 ESC": false, "d d": false, "1 0": true, "c T": true, "~": false, "HOME": false, "2 HOME": false} {
		v := New()
		for _, k := range keys(t, names) {
			v.Do(k, at("a|b c"))
		}
		if v.Waits() != want {
			t.Errorf("behind %q: %t", names, v.Waits())
		}
	}
}

// P28.1
func TestWrong(t *testing.T) {
	var none *Vi
	if none.Waits() || says(none.Do(api.Key{Kind: api.KSign, V: 'x'}, at("|a"))) != "BELL" {
		t.Error("of nil")
	}
	for _, x := range []api.Line{{At: 1}, {At: -1}, {S: []api.Sign{{V: -1}}}, {S: []api.Sign{{L: 6}}}, {At: math.MaxInt}} {
		v := New()
		v.Do(keys(t, "d")[0], at("|a"))
		if says(v.Do(keys(t, "w")[0], x)) != "BELL" || v.Waits() {
			t.Errorf("%v may not be", x)
		}
	}
	for _, k := range []api.Key{{}, {Kind: -1}, {Kind: 99, V: 'x'}, {Kind: api.KSign, V: -1}, {Kind: api.KSign, V: math.MaxInt}, {Kind: api.KSign, V: math.MinInt}, {Kind: api.KCtrl, V: -3}} {
		if says(New().Do(k, at("|a"))) != "BELL" {
			t.Errorf("%v", k)
		}
	}
	v := New()
	v.Do(keys(t, "r")[0], at("|a"))
	if says(v.Do(api.Key{Kind: api.KSign, V: -1}, at("|a"))) != "BELL" {
		t.Error("a sign that may not be")
	}
}

func TestLabels(t *testing.T) {
	v := New()
	v.Do(keys(t, "r")[0], at("|a"))
	if d := v.Do(keys(t, "x")[0], at("|a")); d.Ops[0].S[0] != (api.Sign{V: 'x', L: api.LTyped}) {
		t.Error("r", d)
	}
	if d := v.Do(keys(t, "~")[0], at("|a")); d.Ops[0].S[0] != (api.Sign{V: 'A', L: api.LPaste}) {
		t.Error("tilde", d)
	}
}

// P28.2
func TestCanBeDone(t *testing.T) {
	r := rand.New(rand.NewSource(33))
	letters := "hl0$^|wWbBeEfFtTrcdyxXDsCSiaIApPu~kjG/123z, a"
	v := New()
	for range 200000 {
		l := make([]api.Sign, r.Intn(7))
		for i := range l {
			l[i] = api.Sign{V: int("ab ,zA"[r.Intn(6)]), L: r.Intn(6)}
		}
		x := api.Line{S: l, At: r.Intn(len(l) + 1)}
		k := api.Key{Kind: api.KSign, V: int(letters[r.Intn(len(letters))])}
		if r.Intn(10) == 0 {
			k = api.Key{Kind: r.Intn(17), V: r.Intn(30)}
		}
		for _, o := range v.Do(k, x).Ops {
			if o.N < 0 || o.N > len(l) || sign.Check(o.S) != api.OK {
				t.Fatalf("%v on %v: %v", k, x, o)
			}
		}
	}
}
