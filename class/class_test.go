package class

import (
	"math"
	"os"
	"strconv"
	"strings"
	"testing"

	"dactyl/api"
	"dactyl/utf"
)

// classText is what the document says of classes, in its order.
const classText = `CC0: 0 1F. CDel: 7F. CC1: 80 9F. CSpace: A0, 1680, 2000 200A, 2028 2029, 202F, 205F, 3000. CZero: AD, 180B 180E, 200B 200D, 2060 2064, FEFF, FFF9 FFFB. CBidi: 61C, 200E 200F, 202A 202E, 2066 2069. CMark: 300 36F, 483 489, 591 5BD, 610 61A, 64B 65F, 6D6 6DC, 1AB0 1ACE, 1DC0 1DFF, 20D0 20F0, 302A 302F, 3099 309A, FE00 FE0F, FE20 FE2F. COther: E000 F8FF, FDD0 FDEF, FFF0 FFF8, FFFE FFFF, 1FFFE 1FFFF, 3FFFE 10FFFF. CLook: . CWide: 1100 115F, 231A 231B, 2E80 2FFF, 3001 303E, 3041 33FF, 3400 4DBF, 4E00 A4CF, A960 A97F, AC00 D7A3, F900 FAFF, FE30 FE6F, FF00 FF60, FFE0 FFE6, 1F300 1F64F, 1F680 1F6FF, 1F900 1F9FF, 20000 3FFFD`

// lookText is what it says of look-alikes.
const lookText = `391 A, 392 B, 395 E, 396 Z, 397 H, 399 I, 39A K, 39C M, 39D N, 39F O, 3A1 P, 3A4 T, 3A5 Y, 3A7 X, 3BD v, 3BF o, 3C1 p, 405 S, 406 I, 408 J, 410 A, 412 B, 415 E, 41A K, 41C M, 41D H, 41E O, 420 P, 421 C, 422 T, 425 X, 430 a, 435 e, 43E o, 440 p, 441 c, 443 y, 445 x, 455 s, 456 i, 458 j, 501 d, 51B q, 51D w, 37E ;, 2010 -, 2212 -, 2044 /, 2215 /, 2024 ., 201A ,`

func names() map[string]int {
	return map[string]int{"CC0": api.CC0, "CDel": api.CDel, "CC1": api.CC1, "CSpace": api.CSpace, "CZero": api.CZero, "CBidi": api.CBidi, "CMark": api.CMark, "COther": api.COther, "CLook": api.CLook, "CWide": api.CWide}
}

func hex(s string) int {
	n, err := strconv.ParseInt(s, 16, 64)
	if err != nil {
		panic(err)
	}
	return int(n)
}

func lookAlikes() map[int]int {
	m := map[int]int{}
	for _, p := range strings.Split(lookText, ", ") {
		at, what, _ := strings.Cut(p, " ")
		m[hex(at)] = int(what[0])
	}
	return m
}

// classes tells the class of each code point, as the document says it.
func classes() []int {
	l := make([]int, api.MaxValue+1)
	alike := lookAlikes()
	for _, part := range strings.Split(classText, ". ") {
		name, all, _ := strings.Cut(part, ": ")
		if name == "CLook" {
			for v := range alike {
				if l[v] == 0 {
					l[v] = api.CLook
				}
			}
			continue
		}
		for _, span := range strings.Split(all, ", ") {
			f := strings.Fields(span)
			for v := hex(f[0]); v <= hex(f[len(f)-1]); v++ {
				if l[v] == 0 {
					l[v] = names()[name]
				}
			}
		}
	}
	for v := range l {
		if !utf.Right(v) {
			l[v] = api.CNone
		} else if l[v] == 0 {
			l[v] = api.CPlain
		}
	}
	return l
}

// P3.1
func TestOf(t *testing.T) {
	for v, want := range classes() {
		if Of(v) != want {
			t.Fatalf("Of(%X) = %d, not %d", v, Of(v), want)
		}
		width := map[int]int{api.CWide: 2, api.CPlain: 1, api.CLook: 1}[want]
		if Width(v) != width || Danger(v) != (width == 0 && want != api.CNone) {
			t.Fatalf("Width, Danger of %X", v)
		}
	}
	for v, want := range map[int]int{-1: api.CNone, math.MinInt: api.CNone, math.MaxInt: api.CNone, api.Stray: api.CNone, api.Stray + 127: api.CNone,
		api.Stray + 128: api.CStray, api.Stray + 255: api.CStray, api.Stray + 256: api.CNone} {
		if Of(v) != want || Width(v) != 0 || Danger(v) != (want == api.CStray) {
			t.Errorf("of %d", v)
		}
	}
}

// P3.2
func TestSkeleton(t *testing.T) {
	alike := lookAlikes()
	for v := -2; v <= api.Stray+300; v++ {
		want, ok := alike[v]
		if !ok {
			want = v
		}
		if Skeleton(v) != want {
			t.Errorf("Skeleton(%X) = %X", v, Skeleton(v))
		}
	}
	if Skeleton(math.MinInt) != math.MinInt || Skeleton(math.MaxInt) != math.MaxInt {
		t.Error("of what may not be")
	}
}

// P3.2
func TestAlike(t *testing.T) {
	pay, spoof := []int{'p', 'a', 'y'}, []int{0x440, 0x430, 'y'}
	if !Alike(pay, spoof) || !Alike(spoof, pay) || !Alike(nil, []int{}) {
		t.Error("alike")
	}
	if Alike(pay, spoof[:2]) || Alike(pay[:2], spoof) || Alike(pay, []int{'p', 'a', 'x'}) {
		t.Error("not alike")
	}
}

// P3.3
func TestCount(t *testing.T) {
	got := Count([]int{-1, 'a', 'b', 0x4E00, 0x430, 27, 127, 0x85, 0x202E, 0xAD, 0x301, 0xA0, 0xE000, api.Stray + 200, 0xD800})
	if want := [13]int{2, 2, 1, 1, 1, 1, 1, 1, 1, 1, 1, 1, 1}; got != want {
		t.Errorf("%d", got)
	}
	if Count(nil) != [13]int{} {
		t.Error("of none")
	}
}

// P3.4
func TestPlain(t *testing.T) {
	seen := map[int]bool{}
	for v := range api.MaxValue + 1 {
		seen[Of(v)] = true
		if s := Skeleton(v); Skeleton(s) != s || Of(s) == api.CLook {
			t.Errorf("skeleton of %X", v)
		}
	}
	for c := api.CPlain; c < api.CStray; c++ {
		if !seen[c] {
			t.Errorf("no value of class %d", c)
		}
	}
}

// The tables above are to be the document's own, where it lies beside the project.
func TestText(t *testing.T) {
	b, err := os.ReadFile("../../shared/doc/03-class.md")
	if err != nil {
		t.Skip("no document here")
	}
	for _, part := range strings.Split(classText, ". ") {
		if !strings.Contains(string(b), strings.TrimSpace(part)) {
			t.Errorf("not of the document: %s", part)
		}
	}
	ours := lookText
	for from, to := range map[string]string{"37E ;": "37E semicolon (3B)", "2010 -": "2010 minus (2D)", "2212 -": "2212 minus (2D)", "2044 /": "2044 slash (2F)", "2215 /": "2215 slash (2F)", "2024 .": "2024 point (2E)", "201A ,": "201A comma (2C)"} {
		ours = strings.Replace(ours, from, to, 1)
	}
	if !strings.Contains(string(b), ours) {
		t.Error("the look-alikes are not the document's")
	}
}
