package whole

import (
	"math"
	"math/rand"
	"reflect"
	"strings"
	"testing"

	"dactyl/api"
	"dactyl/audit"
	"dactyl/bind"
	"dactyl/class"
	"dactyl/core"
	"dactyl/count"
	"dactyl/edit"
	"dactyl/editor"
	"dactyl/emacs"
	"dactyl/emit"
	"dactyl/esc"
	"dactyl/event"
	"dactyl/face"
	"dactyl/frame"
	"dactyl/gap"
	"dactyl/grid"
	"dactyl/guest"
	"dactyl/hist"
	"dactyl/input"
	"dactyl/key"
	"dactyl/kill"
	"dactyl/line"
	"dactyl/macro"
	"dactyl/num"
	"dactyl/offer"
	"dactyl/paint"
	"dactyl/port"
	"dactyl/replay"
	"dactyl/rows"
	"dactyl/seek"
	"dactyl/show"
	"dactyl/sign"
	"dactyl/spoof"
	"dactyl/stat"
	"dactyl/store"
	"dactyl/taint"
	"dactyl/tape"
	"dactyl/twin"
	"dactyl/undo"
	"dactyl/utf"
	"dactyl/vfs"
	"dactyl/vi"
	"dactyl/view"
	"dactyl/watch"
	"dactyl/word"
)

// calls are all calls that the chapters list, but methods.
func calls() []any {
	return []any{
		num.Dec, num.Undec, num.Hex, num.Unhex, utf.Right, utf.One, utf.Decode, utf.Encode, utf.Count, utf.Partial, class.Of, class.Width, class.Danger, class.Skeleton, class.Alike, class.Count,
		sign.Right, sign.Check, sign.Of, sign.Text, sign.Values, sign.With, sign.Same, sign.Strange, sign.Runs, sign.Find, sign.Back, word.Kind, word.Next, word.Back, word.Start, word.Prev, word.End, word.Around,
		show.Text, show.Cols, show.Looks, show.Cells, show.Twin, show.Same, view.Of, view.First, view.Own, view.Cols, view.Text, rows.Lay, rows.Place, rows.At, rows.Count, port.Top, port.Blank, port.Screen, port.Check, port.Same, port.Copy, port.Len,
		emit.Check, emit.Text, emit.Parse, emit.Same, emit.Skeleton, emit.Clean, grid.New, paint.From, paint.All, paint.Cols, key.Check, key.Name, key.Parse, key.Bytes, key.Value, input.New, input.Of, frame.Inside, frame.Enters, frame.Pastes, frame.Open,
		gap.New, line.Right, line.Insert, line.Cut, line.Replace, line.Case, line.Swap, line.SwapWords, line.Same, kill.New, undo.New, edit.New, vfs.New, esc.Line, esc.Unline, esc.Text, esc.Read, hist.New, hist.Of, store.Save, store.Load, seek.New, offer.Word, offer.New,
		emacs.Cmd, emacs.Name, emacs.Parse, emacs.Keys, vi.New, count.New, core.New, face.Prompt, face.Screen, editor.New, event.Check, event.Text, event.Parse, event.Log, event.Read, event.Same, tape.Word, tape.Unword, tape.Step, tape.Text, tape.Parse, tape.Same,
		watch.New, watch.Against, twin.May, twin.Check, twin.Turn, twin.Signs, replay.Play, replay.Run, replay.Lines, replay.Cut, audit.Place, audit.Kinds, audit.Dangers, audit.Obeyed, audit.Typed, audit.Pasted, guest.Ask, guest.List, guest.All,
		bind.Parse, bind.Same, stat.Share, stat.Shares, stat.Distance, stat.Like, stat.Mean, stat.Nearest, macro.New, taint.Of, taint.Text, taint.Safe, taint.Only, taint.Ends, spoof.Strip, spoof.Tell, spoof.Fold, spoof.Alike, spoof.Scripts, spoof.Mixed, spoof.Find,
	}
}

// maker makes values of any type that a call takes, right ones and wrong ones.
type maker struct {
	r     *rand.Rand
	depth int
}

func (m *maker) number() int64 {
	l := []int64{0, 1, -1, 2, 3, 5, 8, 13, 27, 97, 127, 255, 0x4E00, 0x430, 0x202E, 0xD800, api.MaxValue, api.Stray, api.Stray + 200, 1000, 1001, math.MaxInt64, math.MinInt64, math.MaxInt64 - 1, math.MinInt64 + 1}
	return l[m.r.Intn(len(l))]
}

func (m *maker) text() string {
	l := []string{"", "a", "ab cd", "\x1b[200~x\x1b[201~", "\x1b[1;1Ha\x1b[K", "\xC3", "日а\u202e", "C-a", "P-61!", "conf 9 9 9 9 9 9 9 9 vi .\nbytes .a\\0D\ntick\n", "accept\t1\t0a", "bell\n", "C-o undo\n", "\\u000041\\\\\n", "-9223372036854775808", "00FF", ".a\\1B", "history", strings.Repeat("x", 300)}
	return l[m.r.Intn(len(l))]
}

// object makes an object, or nil.
func (m *maker) object(t reflect.Type) (reflect.Value, bool) {
	f := conf()
	f.Vi = m.r.Intn(2) == 0
	disk := vfs.New(api.Crash{At: m.r.Intn(4), Keep: []byte{9}})
	var x any
	switch t.String() {
	case "*grid.Grid":
		x, _ = grid.New(4, 2)
	case "*input.Input":
		x, _ = input.New(5)
	case "*gap.Gap":
		x, _ = gap.New(5)
	case "*kill.Ring":
		x, _ = kill.New(2)
	case "*undo.Trail":
		x, _ = undo.New(2)
	case "*edit.Edit":
		x, _ = edit.New(9, 2, 3)
	case "*vfs.Disk":
		x = disk
	case "*hist.Hist":
		x, _ = hist.Of([][]api.Sign{sign.Of(0, "a"), sign.Of(0, "ab")}, 3, 5)
	case "*seek.Seek":
		x = seek.New([][]api.Sign{sign.Of(0, "a"), nil})
	case "*offer.Offer":
		x, _ = offer.New(api.Line{}, [][]api.Sign{sign.Of(0, "a"), sign.Of(0, "ab")})
	case "*vi.Vi":
		x = vi.New()
	case "*count.Count":
		x = count.New()
	case "*core.Core":
		x, _ = core.New(f)
	case "*editor.Editor":
		x, _, _ = editor.New(f, disk)
	case "*watch.Watch":
		x, _ = watch.New(f)
	case "*macro.Macro":
		x, _ = macro.New(3)
	case "bind.Binds":
		x, _ = bind.Parse("C-o undo\n")
	case "guest.Guest":
		x = guest.Func(func(y api.Line) guest.Answer {
			return []guest.Answer{nil, guest.One{S: "a"}, guest.Texts{L: []string{"b"}}, guest.Fail{E: 7}, guest.One{S: string(rune(y.S[2].V))}}[m.r.Intn(5)]
		})
	default:
		return reflect.Value{}, false
	}
	v := reflect.ValueOf(x)
	if m.r.Intn(4) == 0 {
		v = reflect.Zero(t)
	}
	return v, true
}

// value makes a value of a type.
func (m *maker) value(t reflect.Type) reflect.Value {
	if v, ok := m.object(t); ok {
		return v
	}
	v := reflect.New(t).Elem()
	switch t.Kind() {
	case reflect.Int:
		v.SetInt(m.number())
	case reflect.Uint8:
		v.SetUint(uint64(m.r.Intn(256)))
	case reflect.Bool:
		v.SetBool(m.r.Intn(2) == 0)
	case reflect.String:
		v.SetString(m.text())
	case reflect.Float64:
		v.SetFloat([]float64{0, 1, math.NaN(), math.Inf(1)}[m.r.Intn(4)])
	case reflect.Slice:
		for range m.r.Intn(5) {
			v.Set(reflect.Append(v, m.value(t.Elem())))
		}
	case reflect.Array:
		for i := range v.Len() {
			v.Index(i).Set(m.value(t.Elem()))
		}
	case reflect.Struct:
		for i := range v.NumField() {
			if v.Field(i).CanSet() && m.r.Intn(4) > 0 {
				v.Field(i).Set(m.value(t.Field(i).Type))
			}
		}
	}
	return m.tame(v)
}

// tame makes some values ones that may be, so that calls go on.
func (m *maker) tame(v reflect.Value) reflect.Value {
	if m.r.Intn(3) == 0 {
		return v
	}
	switch x := v.Interface().(type) {
	case api.Conf:
		x = conf()
		return reflect.ValueOf(x)
	case api.Sign:
		return reflect.ValueOf(api.Sign{V: []int{'a', ' ', 27, 0x4E00, 10}[m.r.Intn(5)], L: m.r.Intn(6)})
	case api.Line:
		return reflect.ValueOf(api.Line{S: sign.Of(m.r.Intn(6), "ab c\n"), At: m.r.Intn(6)})
	case api.Screen:
		s, _ := port.Screen(nil, sign.Of(0, "ab日"), m.r.Intn(3), 4, 2)
		return reflect.ValueOf(s)
	case api.Key:
		l := input.Of(api.Key{})
		in, _ := input.New(9)
		for _, b := range []byte(parts[m.r.Intn(len(parts))]) {
			l = append(l, api.Item{B: b})
		}
		if keys := in.Do(append(l, api.Item{Tick: true})...); len(keys) > 0 {
			return reflect.ValueOf(keys[0])
		}
	case api.Out:
		return reflect.ValueOf([]api.Out{{Text: "a日"}, {Kind: api.OMove, N: 2, M: 1}, {Kind: api.ORest}, {Kind: api.OLF}}[m.r.Intn(4)])
	case api.Step:
		x.Kind = m.r.Intn(7)
		if x.Kind == api.SResize {
			x.N, x.M = 1+m.r.Intn(9), 1+m.r.Intn(4)
		}
		return reflect.ValueOf(x)
	}
	return v
}

// call calls a function; what it panics with is told.
func (m *maker) call(t *testing.T, f reflect.Value, name string) {
	kind := f.Type()
	args := make([]reflect.Value, kind.NumIn())
	for i := range args {
		args[i] = m.value(kind.In(i))
	}
	defer func() {
		if x := recover(); x != nil {
			t.Errorf("%s of %v panics: %v", name, args, x)
		}
	}()
	if kind.IsVariadic() {
		f.CallSlice(args)
	} else {
		f.Call(args)
	}
}

// R1: no call panics, whatever it is given.
func TestNothingPanics(t *testing.T) {
	m := &maker{r: rand.New(rand.NewSource(57))}
	for i, f := range calls() {
		for range 400 {
			v := reflect.ValueOf(f)
			m.call(t, v, v.Type().String()+" of place "+num.Dec(i))
		}
	}
	objects := []any{(*grid.Grid)(nil), (*input.Input)(nil), (*gap.Gap)(nil), (*kill.Ring)(nil), (*undo.Trail)(nil), (*edit.Edit)(nil), (*vfs.Disk)(nil), (*hist.Hist)(nil), (*seek.Seek)(nil), (*offer.Offer)(nil), (*vi.Vi)(nil), (*count.Count)(nil), (*core.Core)(nil), (*editor.Editor)(nil), (*watch.Watch)(nil), (*macro.Macro)(nil), bind.Binds{}}
	for _, o := range objects {
		kind := reflect.TypeOf(o)
		for range 300 {
			x, _ := m.object(kind)
			for range 25 {
				i := m.r.Intn(kind.NumMethod())
				m.call(t, x.Method(i), kind.String()+"."+kind.Method(i).Name)
			}
		}
	}
}
