package editor

import (
	"dactyl/api"
	"dactyl/hist"
	"dactyl/sign"
	"dactyl/store"
)

// name is the disk's file that a history stands in.
const name = "history"

// step does what a step asks for, and tells what happens.
func (e *Editor) step(x api.Step) ([]api.Event, api.Errno) {
	switch x.Kind {
	case api.SBytes:
		items := make([]api.Item, len(x.Text))
		for i := range items {
			items[i].B = x.Text[i]
		}
		return e.items(items), api.OK
	case api.STick:
		return e.items([]api.Item{{Tick: true}}), api.OK
	case api.SResize:
		if !side(x.N) || !side(x.M) {
			return nil, api.ErrRange
		}
		e.conf.W, e.conf.H = x.N, x.M
		return nil, api.OK
	case api.SOffer:
		return e.core.Offer(cands(x.L)), api.OK
	case api.SLoad:
		return nil, e.load(x)
	case api.SSave:
		return nil, e.save()
	case api.SPower:
		e.disk.Power()
		return nil, api.OK
	}
	return nil, api.ErrArg
}

// items does the keys that items are.
func (e *Editor) items(l []api.Item) []api.Event {
	do := e.core.Do
	var events []api.Event
	for _, k := range e.input.Do(l...) {
		events = append(events, do(k)...)
	}
	return events
}

// cands tells the signs of texts that are offered.
func cands(texts []string) [][]api.Sign {
	l := make([][]api.Sign, len(texts))
	for i, s := range texts {
		l[i] = sign.Of(api.LCand, s)
	}
	return l
}

// tryer makes a function that does steps that may fail, one behind the other, up to the first error.
func (e *Editor) tryer() func(steps ...func() api.Errno) api.Errno {
	return func(steps ...func() api.Errno) api.Errno {
		for _, step := range steps {
			if err := step(); err != api.OK {
				return err
			}
		}
		return api.OK
	}
}

// load loads the history, which somebody writes ahead of it, if that is said.
func (e *Editor) load(x api.Step) api.Errno {
	read := func() api.Errno {
		h, err := store.Load(e.disk, e.conf.Hist, e.conf.Entry)
		if err == api.OK {
			e.core.Load(h.All())
		}
		return err
	}
	try := e.tryer()
	if x.N != 1 {
		return try(read)
	}
	return try(func() api.Errno { return e.disk.Write(name, x.Text) }, e.disk.Sync, read)
}

// save saves the history.
func (e *Editor) save() api.Errno {
	var h *hist.Hist
	return e.tryer()(
		func() (err api.Errno) {
			h, err = hist.Of(e.core.Hist(), e.conf.Hist, e.conf.Entry)
			return err
		},
		func() api.Errno { return store.Save(e.disk, h) },
	)
}
