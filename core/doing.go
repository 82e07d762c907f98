package core

import (
	"dactyl/api"
	"dactyl/key"
	"dactyl/offer"
)

// doing is a core, and what happens while something is done with it.
type doing struct {
	*Core
	events []api.Event
}

// happens tells that something happened.
func (d *doing) happens(kind int) {
	d.events = append(d.events, api.Event{Kind: kind})
}

// happensTo tells that something happened to the line.
func (d *doing) happensTo(kind int) {
	x := d.text.Line()
	d.events = append(d.events, api.Event{Kind: kind, S: x.S, At: x.At})
}

// refuse tells that something was refused.
func (d *doing) refuse() {
	d.happens(api.VBell)
}

// refuseUnless refuses what was not done.
func (d *doing) refuseUnless(done bool) {
	if !done {
		d.refuse()
	}
}

// ops does something with the text, one behind the other, till one is refused.
func (d *doing) ops(l ...api.Op) bool {
	for _, o := range l {
		if !d.text.Do(o) {
			d.refuse()
			return false
		}
	}
	return true
}

// set sets the line.
func (d *doing) set(l []api.Sign, at int) {
	d.ops(api.Op{Kind: api.ESet, N: at, S: l})
}

// offered offers something for the line's word.
func (d *doing) offered(cands [][]api.Sign) {
	if d.mode != api.MInsert {
		d.refuse()
		return
	}
	o, e := offer.New(d.text.Line(), cands)
	if e != api.OK {
		d.refuse()
		return
	}
	if o.Len() == 1 {
		o.Next()
		x := o.Line()
		d.set(x.S, x.At)
		return
	}
	d.into(api.MOffer)
	d.offer = o
}

// ctrl tells the key of a control byte.
func ctrl(v int) api.Key {
	return api.Key{Kind: api.KCtrl, V: v}
}

// isCancel tells whether a key is one of those that cancel.
func isCancel(k api.Key) bool {
	return k == ctrl(3) || k == ctrl(7)
}

// key does a key, by the mode.
func (d *doing) key(k api.Key) {
	if key.Check(k) != api.OK {
		d.refuse()
		return
	}
	switch d.mode {
	case api.MInsert:
		d.insertKey(k)
	case api.MCommand:
		d.commandKey(k)
	case api.MSeek:
		d.seekKey(k)
	case api.MOffer:
		d.offerKey(k)
	case api.MSure:
		d.sureKey(k)
	case api.MQuote:
		d.quoteKey(k)
	}
}
