package node_test

import (
	"fmt"
	"slices"

	"grapevine/api"
	"grapevine/buffer"
	"grapevine/digest"
	"grapevine/filter"
	"grapevine/ident"
	"grapevine/peer"
	"grapevine/pull"
	"grapevine/pulse"
	"grapevine/push"
	"grapevine/schema"
	"grapevine/seen"
	"grapevine/stable"
)

// oracle is a peer that does what the chapter says, step by step.
type oracle struct {
	c         api.Config
	p         api.Peer
	out       []api.Message
	delivered []api.Event
	draws     []uint32
}

func (o *oracle) send(m api.Message) {
	m.From, m.Inc = o.p.Node, o.p.Inc
	o.out = append(o.out, m)
}

func (o *oracle) acceptable(e api.Event) bool {
	switch {
	case !schema.Event(o.c.Schema, e), int(e.ID.Node) >= o.c.Nodes, e.ID.Seq > o.c.Last:
		return false
	case e.ID.Node == o.p.Node && e.ID.Inc >= o.p.Inc:
		return false
	}
	return seen.May(o.p.Rows[e.ID.Node], e.ID, o.c.Window)
}

// accept reports whether e was accepted, and is delivered.
func (o *oracle) accept(e api.Event) (bool, bool) {
	if !o.p.Up || !o.acceptable(e) {
		return false, false
	}
	o.p.Rows = slices.Clone(o.p.Rows)
	o.p.Rows[e.ID.Node], _ = seen.Take(o.p.Rows[e.ID.Node], e.ID, o.c.Window)
	o.p.Pulls = slices.DeleteFunc(slices.Clone(o.p.Pulls), func(a api.Ask) bool {
		return a.ID == e.ID || a.ID.Node == e.ID.Node && a.ID.Inc < e.ID.Inc
	})
	if len(o.p.Buffer.Events) < o.p.Buffer.Room {
		o.p.Buffer, _ = buffer.Put(o.p.Buffer, e)
	} else {
		o.p.Passed++
	}
	return true, filter.Match(o.p.Filter, e.Vals)
}

func (o *oracle) push(e api.Event, hops uint8, links []uint8) {
	draws := o.draws[min(len(o.draws), o.c.Swap+1):]
	for _, to := range push.Pick(links, o.c.Fanout, draws) {
		o.send(api.Message{Kind: api.KindPush, To: to, Event: e, Hops: hops})
	}
}

func (o *oracle) links(without ...uint8) []uint8 {
	var l []uint8
	for _, link := range peer.Links(o.p) {
		if !slices.Contains(without, link) {
			l = append(l, link)
		}
	}
	return l
}

func (o *oracle) publish(vals []int32, data []byte) (e api.Event, wanted bool, err api.Errno) {
	e = api.Event{ID: api.ID{Node: o.p.Node, Inc: o.p.Inc, Seq: o.p.Seq + 1}, Vals: vals, Data: data}
	others := slices.ContainsFunc(o.p.Buffer.Events, func(e api.Event) bool { return e.ID.Node != o.p.Node || e.ID.Inc != o.p.Inc })
	full := len(o.p.Buffer.Events) == o.p.Buffer.Room
	switch {
	case !o.p.Up:
		return api.Event{}, false, api.ErrDown
	case !schema.Event(o.c.Schema, e):
		return api.Event{}, false, api.ErrEvent
	case o.p.Seq >= o.c.Last:
		return api.Event{}, false, api.ErrSpent
	case full && !others:
		return api.Event{}, false, api.ErrFull
	case full:
		o.p.Buffer, _, _ = buffer.Evict(o.p.Buffer, o.p.Node, o.p.Inc)
		o.p.Evicted++
	}
	o.p.Buffer, _ = buffer.Put(o.p.Buffer, e)
	o.p.Seq++
	o.p.Rows = slices.Clone(o.p.Rows)
	o.p.Rows[o.p.Node] = api.Row{Inc: o.p.Inc, Prefix: o.p.Seq}
	o.push(e, uint8(o.c.Hops), o.links())
	return e, filter.Match(o.p.Filter, vals), api.OK
}

func (o *oracle) take(m api.Message) {
	if m.Kind != api.KindPush && m.Kind != api.KindPull && m.Kind != api.KindDigest {
		o.p, o.out = peer.Take(o.c, o.p, m, o.draws)
		return
	}
	heard, ok := peer.Hear(o.c, o.p, m.From, m.Inc)
	if !o.p.Up || m.To != o.p.Node || !ok {
		return
	}
	o.p = peer.Meet(o.c, heard, nil)
	switch m.Kind {
	case api.KindPush:
		accepted, delivered := o.accept(m.Event)
		if delivered {
			o.delivered = append(o.delivered, m.Event)
		}
		if accepted && m.Hops > 0 {
			o.push(m.Event, m.Hops-1, o.links(m.From, m.Event.ID.Node))
		}
	case api.KindPull:
		for _, x := range m.IDs {
			for _, e := range o.p.Buffer.Events {
				if e.ID == x {
					o.send(api.Message{Kind: api.KindPush, To: m.From, Event: e})
				}
			}
		}
	case api.KindDigest:
		o.digest(m)
	}
	o.p = peer.Meet(o.c, o.p, nil)
}

func (o *oracle) digest(m api.Message) {
	n := m.Origin.Node
	if int(n) >= o.c.Nodes || n == o.p.Node {
		return
	}
	if last := o.p.Heard[n]; m.Origin.Inc < last.Inc || m.Origin.Inc == last.Inc && m.Origin.Seq <= last.Seq {
		return
	}
	heard, ok := peer.Hear(o.c, o.p, n, m.Origin.Inc)
	if !ok {
		return
	}
	o.p = heard
	o.p.Heard[n] = m.Origin
	was := o.p.Table
	o.p.Table = pulse.Merge(was, m.Table, o.p.Node)
	for k := range was {
		if o.p.Table[k].Inc > was[k].Inc {
			o.p.Reports = stable.Forget(o.p.Reports, uint8(k))
		}
	}
	o.p.Reports = stable.Report(o.p.Reports, n, m.Marks)
	var asked []api.ID
	for _, x := range digest.Lacks(m.IDs, o.p.Rows, o.c.Window) {
		if x.Seq <= o.c.Last && len(o.p.Pulls) < o.c.Pulls && !pull.Has(o.p.Pulls, x) {
			o.p.Pulls = append(slices.Clone(o.p.Pulls), api.Ask{ID: x, From: n, Left: uint8(o.c.Patience)})
			slices.SortFunc(o.p.Pulls, func(a, b api.Ask) int {
				if ident.Less(a.ID, b.ID) {
					return -1
				}
				return 1
			})
			asked = append(asked, x)
		}
	}
	if len(asked) > 0 {
		o.send(api.Message{Kind: api.KindPull, To: n, IDs: asked})
	}
	if m.Hops > 0 {
		for _, to := range o.links(m.From, n) {
			o.send(api.Message{Kind: api.KindDigest, To: to, Hops: m.Hops - 1, Origin: m.Origin, Table: m.Table, Marks: m.Marks, IDs: m.IDs})
		}
	}
}

func (o *oracle) tick() {
	if !o.p.Up {
		return
	}
	o.p.Pulls, _ = pull.Tick(o.p.Pulls)
	for _, e := range o.p.Buffer.Events {
		if stable.Stable(o.p.Reports, o.p.Table, o.p.Node, o.p.Rows, e.ID) {
			o.p.Buffer, _ = buffer.Remove(o.p.Buffer, e.ID)
			o.p.Collected++
		}
	}
	o.p, o.out = peer.Tick(o.c, o.p, o.draws)
	if o.p.Count != 1<<32-1 {
		o.p.Count++
	}
	for _, to := range o.links() {
		o.send(api.Message{Kind: api.KindDigest, To: to, Hops: 12, Origin: api.Mark{Node: o.p.Node, Inc: o.p.Inc, Seq: o.p.Count}, Table: o.p.Table, Marks: digest.Marks(o.p.Rows), IDs: buffer.IDs(o.p.Buffer)})
	}
}

// same compares all that a and b have; empty lists are the same, nil or not.
func same(a, b any) bool {
	return fmt.Sprint(a) == fmt.Sprint(b)
}
