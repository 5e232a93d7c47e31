package node

import (
	"slices"

	"grapevine/api"
	"grapevine/buffer"
	"grapevine/digest"
	"grapevine/filter"
	"grapevine/ident"
	"grapevine/peer"
	"grapevine/pull"
	"grapevine/push"
	"grapevine/schema"
	"grapevine/seen"
	"grapevine/stable"
	"grapevine/state"
)

// work is what is done with one message, or one publication.
type work struct {
	c         api.Config
	p         api.Peer
	m         api.Message
	draws     []uint32
	sent      []api.Message
	delivered []api.Event
}

// kinds returns what is done with a message of each kind of this layer.
func (w *work) kinds() map[uint8]func() {
	return map[uint8]func(){
		api.KindPush:   w.takePush,
		api.KindPull:   w.takePull,
		api.KindDigest: w.takeDigest,
	}
}

func (w *work) takePush() {
	e := w.m.Event
	if !w.acceptable(e) {
		return
	}
	w.accept(e)
	if filter.Match(w.p.Filter, e.Vals) {
		w.delivered = append(w.delivered, schema.Copy(e))
	}
	if hops, ok := push.Less(w.m.Hops); ok {
		w.push(e, hops, w.linksWithout(e.ID.Node))
	}
}

func (w *work) takePull() {
	for _, x := range w.m.IDs {
		if e, err := buffer.Get(w.p.Buffer, x); err == api.OK {
			w.sendEvent(w.m.From, e, 0)
		}
	}
}

func (w *work) takeDigest() {
	if !w.reported() {
		return
	}
	w.pullLacking()
	hops, ok := push.Less(w.m.Hops)
	if !ok {
		return
	}
	for _, link := range w.linksWithout(w.m.Origin.Node) {
		m := state.Message(w.p, api.KindDigest, link)
		m.Table = slices.Clone(w.m.Table)
		m.Hops = hops
		m.Origin = w.m.Origin
		m.Marks = slices.Clone(w.m.Marks)
		m.IDs = slices.Clone(w.m.IDs)
		w.sent = append(w.sent, m)
	}
}

// reported takes in what a digest tells of its origin, if that is new, and reports whether it is.
func (w *work) reported() bool {
	from := w.m.Origin
	if int(from.Node) >= min(w.c.Nodes, len(w.p.Heard)) || from.Node == w.p.Node {
		return false
	}
	last := w.p.Heard[from.Node]
	last.Node = from.Node // what was never heard of says node 0
	if !digest.Newer(from, last) {
		return false
	}
	heard, ok := peer.Hear(w.c, w.p, from.Node, from.Inc)
	if !ok {
		return false
	}
	w.p = heard
	w.p.Heard[from.Node] = from
	w.p = state.Learn(w.p, w.m.Table)
	w.p.Reports = stable.Report(w.p.Reports, from.Node, w.m.Marks)
	return true
}

// pullLacking asks the origin of a digest for what it keeps, as far as there is room for asks.
func (w *work) pullLacking() {
	var asked []api.ID
	for _, x := range digest.Lacks(w.m.IDs, w.p.Rows, w.c.Window) {
		if !ident.Right(x, w.c.Nodes, w.c.Last) {
			continue
		}
		ask := api.Ask{ID: x, From: w.m.Origin.Node, Left: uint8(w.c.Patience)}
		pulls, err := pull.Add(w.p.Pulls, ask, w.c.Pulls)
		if err == api.OK {
			w.p.Pulls = pulls
			asked = append(asked, x)
		}
	}
	if len(asked) > 0 {
		m := state.Message(w.p, api.KindPull, w.m.Origin.Node)
		m.IDs = asked
		w.sent = append(w.sent, m)
	}
}

// acceptable reports whether e may be recorded as seen.
func (w *work) acceptable(e api.Event) bool {
	x := e.ID
	if !schema.Event(w.c.Schema, e) || int(x.Node) >= min(w.c.Nodes, len(w.p.Rows)) || x.Seq > w.c.Last {
		return false
	}
	if x.Node == w.p.Node && x.Inc >= w.p.Inc {
		return false
	}
	return seen.May(w.p.Rows[x.Node], x, w.c.Window)
}

// accept records e, and keeps it if there is room.
func (w *work) accept(e api.Event) {
	x := e.ID
	w.p.Rows[x.Node], _ = seen.Take(w.p.Rows[x.Node], x, w.c.Window)
	w.p.Pulls = pull.Drop(w.p.Pulls, x)
	for _, ask := range w.p.Pulls {
		if ask.ID.Node == x.Node && ask.ID.Inc < x.Inc {
			w.p.Pulls = pull.Drop(w.p.Pulls, ask.ID)
		}
	}
	b, err := buffer.Put(w.p.Buffer, e)
	w.p.Buffer = b
	if err == api.ErrFull {
		w.p.Passed++
	}
}

// keep puts an own event into the buffer, in place of another one's if there is no room.
func (w *work) keep(e api.Event) api.Errno {
	b := w.p.Buffer
	if len(b.Events) >= b.Room {
		evicted, _, err := buffer.Evict(b, w.p.Node, w.p.Inc)
		if err != api.OK {
			return err
		}
		b = evicted
		w.p.Evicted++
	}
	w.p.Buffer, _ = buffer.Put(b, e)
	return api.OK
}

// push sends e to some of the links, by the draws that peers leave.
func (w *work) push(e api.Event, hops uint8, links []uint8) {
	var draws []uint32
	if at := w.c.Swap + 1; at >= 0 && at < len(w.draws) {
		draws = w.draws[at:]
	}
	for _, link := range push.Pick(links, w.c.Fanout, draws) {
		w.sendEvent(link, e, hops)
	}
}

func (w *work) sendEvent(to uint8, e api.Event, hops uint8) {
	m := state.Message(w.p, api.KindPush, to)
	m.Event = schema.Copy(e)
	m.Hops = hops
	w.sent = append(w.sent, m)
}

// linksWithout returns the links but who sent the message, and that node.
func (w *work) linksWithout(node uint8) []uint8 {
	return slices.DeleteFunc(peer.Links(w.p), func(link uint8) bool {
		return link == w.m.From || link == node
	})
}
