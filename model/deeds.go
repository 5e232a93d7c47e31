package model

import (
	"slices"

	"grapevine/api"
	"grapevine/filter"
	"grapevine/schema"
)

// work is a deed, and what comes of it. Its service shares memory with the one before; of that only the lives are written to, which it has of its own.
type work struct {
	s   api.Service
	d   api.Deed
	id  api.ID
	err api.Errno
}

// done does a deed, if it is possible.
func done(s api.Service, d api.Deed) *work {
	w := &work{s: s, d: d}
	effect, ok := effects()[d.What]
	switch {
	case !ok:
		w.err = api.ErrDeed
	case int(d.Node) >= len(s.Lives):
		w.err = api.ErrArg
	default:
		w.s.Lives = slices.Clone(s.Lives)
		w.err = effect(w)
	}
	return w
}

// effects returns the effect of each deed; what is wrong with a deed is found before anything changes.
func effects() map[uint8]func(*work) api.Errno {
	return map[uint8]func(*work) api.Errno{
		api.DeedStart:     (*work).start,
		api.DeedStop:      (*work).stop,
		api.DeedSubscribe: (*work).subscribe,
		api.DeedPublish:   (*work).publish,
		api.DeedDeliver:   (*work).deliver,
	}
}

func (w *work) life() *api.Life {
	return &w.s.Lives[w.d.Node]
}

func (w *work) start() api.Errno {
	l := w.life()
	if l.Up {
		return api.ErrUp
	}
	if l.Inc == api.MaxInc {
		return api.ErrSpent
	}
	*l = api.Life{Inc: l.Inc + 1, Up: true}
	return api.OK
}

func (w *work) stop() api.Errno {
	l := w.life()
	if !l.Up {
		return api.ErrDown
	}
	l.Up = false
	l.Filter = nil
	return api.OK
}

func (w *work) subscribe() api.Errno {
	l := w.life()
	if !l.Up {
		return api.ErrDown
	}
	normal, err := filter.Normal(w.s.Schema, w.d.Filter)
	if err != api.OK {
		return err
	}
	l.Filter = normal
	return api.OK
}

func (w *work) publish() api.Errno {
	l := w.life()
	e := w.d.Event
	switch {
	case !l.Up:
		return api.ErrDown
	case !schema.Fits(w.s.Schema, e.Vals) || len(e.Data) > api.MaxData:
		return api.ErrEvent
	case l.Seq >= w.s.Last:
		return api.ErrSpent
	}
	l.Seq++
	w.id = api.ID{Node: w.d.Node, Inc: l.Inc, Seq: l.Seq}
	e.ID = w.id
	w.s.Events = append(slices.Clip(w.s.Events), e)
	return api.OK
}

func (w *work) deliver() api.Errno {
	l := w.life()
	if !l.Up {
		return api.ErrDown
	}
	at := slices.IndexFunc(w.s.Events, func(e api.Event) bool { return e.ID == w.d.ID })
	if at < 0 {
		return api.ErrUnknown
	}
	if !filter.Match(l.Filter, w.s.Events[at].Vals) {
		return api.ErrApart
	}
	g := api.Given{Node: w.d.Node, Inc: l.Inc, ID: w.d.ID}
	if slices.Contains(w.s.Given, g) {
		return api.ErrGiven
	}
	w.s.Given = append(slices.Clip(w.s.Given), g)
	return api.OK
}
