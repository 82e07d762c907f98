package core

import (
	"dactyl/api"
	"dactyl/count"
	"dactyl/seek"
	"dactyl/vi"
)

// command does a command, with a count.
func (d *doing) command(cmd int, k api.Key, n int) {
	for _, r := range table() {
		if r.cmd == cmd {
			d.row(r, about{text: d.text, key: k, n: n})
			return
		}
	}
	switch cmd {
	case api.QUp, api.QDown, api.QFirst, api.QLast, api.QPrefix:
		d.histCommand(cmd)
	case api.QSeek:
		d.into(api.MSeek)
		d.seek = seek.New(d.hist.All())
	case api.QComplete:
		d.happensTo(api.VAsk)
	case api.QEnter:
		d.enter()
	case api.QQuote:
		d.into(api.MQuote)
	case api.QCancel:
		d.happensTo(api.VCancel)
		d.anew()
	case api.QErase:
		d.happens(api.VErase)
	case api.QEof:
		d.eof()
	default:
		d.refuse()
	}
}

// row does what a row of the table says.
func (d *doing) row(r row, a about) {
	ops, ok := r.ops(a)
	if !ok {
		d.refuse()
		return
	}
	d.ops(ops...)
	if r.cmd == api.QPaste && a.key.Cut {
		d.refuse()
	}
}

// anew clears the line.
func (d *doing) anew() {
	d.text.Clear()
	d.hist.Rest()
	d.mode = api.MInsert
}

// eof ends all, or makes a sign go.
func (d *doing) eof() {
	if len(d.text.Line().S) == 0 {
		d.happens(api.VEof)
		return
	}
	d.ops(api.Op{Kind: api.EDelete, N: 1})
}

// enter ends the line, or asks for one Enter more.
func (d *doing) enter() {
	x := d.text.Line()
	if d.mode != api.MSure && hasPastedEnd(x.S) {
		d.into(api.MSure)
		return
	}
	d.happensTo(api.VAccept)
	d.hist.Add(x.S) // what it refuses, as too long, is in no history
	d.anew()
	d.machine, d.count = vi.New(), count.New()
}

// hasPastedEnd tells whether a line end among signs was pasted.
func hasPastedEnd(l []api.Sign) bool {
	for _, s := range l {
		if s == (api.Sign{V: 10, L: api.LPaste}) || s == (api.Sign{V: 13, L: api.LPaste}) {
			return true
		}
	}
	return false
}

// histCommand sets the line to one that the history tells.
func (d *doing) histCommand(cmd int) {
	x := d.text.Line()
	up := func() ([]api.Sign, bool) { return d.hist.Up(x.S) }
	var l []api.Sign
	ok := false
	switch cmd {
	case api.QUp:
		l, ok = up()
	case api.QDown:
		l, ok = d.hist.Down()
	case api.QFirst:
		l, ok = over(up)
	case api.QLast:
		l, ok = over(d.hist.Down)
	case api.QPrefix:
		d.prefix(x, up)
		return
	}
	if !ok {
		d.refuse()
		return
	}
	d.set(l, len(l))
}

// over does something over and over, till it is false, and tells what was told last.
func over(step func() ([]api.Sign, bool)) ([]api.Sign, bool) {
	last, ok := step()
	for more := ok; more; {
		var l []api.Sign
		if l, more = step(); more {
			last = l
		}
	}
	return last, ok
}

// prefix sets the line to an older entry that begins as it does.
func (d *doing) prefix(x api.Line, up func() ([]api.Sign, bool)) {
	place := d.hist.Prefix(x.S[:x.At], d.hist.Hand())
	if place < 0 {
		d.refuse()
		return
	}
	var l []api.Sign
	for d.hist.Hand() > place {
		l, _ = up()
	}
	d.set(l, x.At)
}
