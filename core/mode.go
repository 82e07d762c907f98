package core

import (
	"dactyl/api"
	"dactyl/emacs"
	"dactyl/key"
)

// insertKey does a key where signs come.
func (d *doing) insertKey(k api.Key) {
	if d.inVi && k.Kind == api.KEsc {
		if at := d.text.Line().At; at != 0 {
			d.ops(api.Op{Kind: api.EMove, N: at - 1})
		}
		d.mode = api.MCommand
		return
	}
	n := 1
	if !d.inVi {
		if d.count.Do(k) {
			return
		}
		n, _ = d.count.Take()
	}
	d.command(emacs.Cmd(k), k, n)
}

// commandKey does a key where letters are commands.
func (d *doing) commandKey(k api.Key) {
	deed := d.machine.Do(k, d.text.Line())
	if d.ops(deed.Ops...) {
		switch deed.Cmd {
		case api.QNone:
		case api.QInsert:
			d.mode = api.MInsert
		default:
			d.command(deed.Cmd, k, 1)
		}
	}
	if d.mode != api.MCommand {
		return
	}
	if x := d.text.Line(); len(x.S) > 0 && x.At == len(x.S) {
		d.ops(api.Op{Kind: api.EMove, N: x.At - 1})
	}
}

// seekKey does a key while the history is searched.
func (d *doing) seekKey(k api.Key) {
	switch {
	case k.Kind == api.KSign:
		d.refuseUnless(d.seek.Type(api.Sign{V: k.V, L: api.LTyped}))
	case k.Kind == api.KBack || k == ctrl(8):
		d.refuseUnless(d.seek.Less())
	case k == ctrl(18):
		d.refuseUnless(d.seek.Older())
	case k == ctrl(19):
		d.refuseUnless(d.seek.Newer())
	case isCancel(k):
		d.leave()
	default:
		x, ok := d.seek.Line()
		d.leave()
		if ok {
			d.set(x.S, x.At)
		}
		if k.Kind != api.KEnter && k.Kind != api.KEsc {
			d.key(k)
		}
	}
}

// offerKey does a key while something is offered.
func (d *doing) offerKey(k api.Key) {
	switch {
	case k == ctrl(9) || k.Kind == api.KDown:
		d.offer.Next()
	case k.Kind == api.KUp:
		d.offer.Prev()
	case isCancel(k) || k.Kind == api.KEsc:
		d.leave()
	default:
		x := d.offer.Line()
		d.leave()
		d.set(x.S, x.At)
		if k.Kind != api.KEnter {
			d.key(k)
		}
	}
}

// sureKey does a key behind an Enter of a line with a pasted line end.
func (d *doing) sureKey(k api.Key) {
	if k.Kind == api.KEnter {
		d.command(api.QEnter, k, 1)
		return
	}
	d.leave()
	d.key(k)
}

// quoteKey makes a key's value come, as it is.
func (d *doing) quoteKey(k api.Key) {
	d.leave()
	v, ok := key.Value(k)
	if !ok {
		d.refuse()
		return
	}
	d.ops(api.Op{Kind: api.EInsert, S: []api.Sign{{V: v, L: api.LQuoted}}})
}
