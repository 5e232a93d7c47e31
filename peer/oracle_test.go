package peer_test

import (
	"fmt"
	"slices"

	"grapevine/api"
	"grapevine/cyclon"
	"grapevine/desc"
	"grapevine/filter"
	"grapevine/near"
	"grapevine/pulse"
	"grapevine/ring"
	"grapevine/sample"
	"grapevine/stable"
)

// oracle is a peer that does what the chapter says, step by step, in place.
type oracle struct {
	c     api.Config
	p     api.Peer
	out   []api.Message
	draws []uint32
}

func empty(c api.Config, node uint8) api.Peer {
	return api.Peer{Node: node, Table: make([]api.Member, c.Nodes), Rows: make([]api.Row, c.Nodes), Heard: make([]api.Mark, c.Nodes), Reports: stable.New(c.Nodes), Buffer: api.Buffer{Room: c.Buffer}}
}

func (o *oracle) self() api.Desc {
	return api.Desc{Node: o.p.Node, Inc: o.p.Inc, Filter: o.p.Filter}
}

func (o *oracle) links() []uint8 {
	in := map[uint8]int{}
	for _, d := range append(append(slices.Clone(o.p.View), o.p.Near...), ring.List(o.p.Ring)...) {
		in[d.Node]++
	}
	var l []uint8
	for node := range 256 {
		if in[uint8(node)] > 0 {
			l = append(l, uint8(node))
		}
	}
	return l
}

func (o *oracle) current(d api.Desc) bool {
	m := o.p.Table[d.Node]
	switch {
	case d.Node == o.p.Node || d.Inc < m.Inc:
		return false
	case d.Inc == m.Inc:
		return m.State == api.MemAlive
	}
	return true
}

func (o *oracle) good(l []api.Desc) []api.Desc {
	var out []api.Desc
	for _, d := range l {
		if int(d.Node) < o.c.Nodes && d.Inc > 0 && filter.Right(o.c.Schema, d.Filter) && o.current(d) {
			out = append(out, d)
		}
	}
	return out
}

func (o *oracle) meet(l []api.Desc) {
	stale := func(d api.Desc) bool { return !o.current(d) }
	o.p.View = slices.DeleteFunc(slices.Clone(o.p.View), stale)
	o.p.Near = slices.DeleteFunc(slices.Clone(o.p.Near), stale)
	if o.p.Ring.HasSucc && stale(o.p.Ring.Succ) {
		o.p.Ring.HasSucc, o.p.Ring.Succ = false, api.Desc{}
	}
	if o.p.Ring.HasPred && stale(o.p.Ring.Pred) {
		o.p.Ring.HasPred, o.p.Ring.Pred = false, api.Desc{}
	}
	l = o.good(l)
	beside := ring.List(o.p.Ring)
	o.p.Near = near.Choose(o.p.Filter, o.p.Node, o.c.Near, o.p.View, o.p.Near, beside, l)
	o.p.Ring = ring.Choose(o.c.Schema, o.self(), o.p.View, o.p.Near, beside, l)
}

func (o *oracle) hear(node uint8, inc uint16) bool {
	if int(node) >= o.c.Nodes || node == o.p.Node || inc == 0 || inc < o.p.Table[node].Inc || inc == o.p.Table[node].Inc && o.p.Table[node].State == api.MemLeft {
		return false
	}
	if inc > o.p.Table[node].Inc {
		o.p.Reports = stable.Forget(o.p.Reports, node)
	}
	o.p.Table = pulse.Heard(o.p.Table, node, inc)
	return true
}

func (o *oracle) learn(table []api.Member) {
	was := o.p.Table
	o.p.Table = pulse.Merge(was, table, o.p.Node)
	for k := range was {
		if o.p.Table[k].Inc > was[k].Inc {
			o.p.Reports = stable.Forget(o.p.Reports, uint8(k))
		}
	}
}

func (o *oracle) send(m api.Message) {
	m.From, m.Inc = o.p.Node, o.p.Inc
	o.out = append(o.out, m)
}

func (o *oracle) withSelf(l []api.Desc) []api.Desc {
	var out []api.Desc
	for node := range 256 {
		for _, d := range append(slices.Clone(l), o.self()) {
			if int(d.Node) == node {
				out = append(out, d)
			}
		}
	}
	return out
}

func (o *oracle) take(m api.Message) {
	if !o.p.Up || m.To != o.p.Node || !o.hear(m.From, m.Inc) {
		return
	}
	var meets []api.Desc
	switch m.Kind {
	case api.KindJoin:
		if len(m.List) == 1 && m.List[0].Node == m.From && m.List[0].Inc == m.Inc && int(m.From) < o.c.Nodes && filter.Right(o.c.Schema, m.List[0].Filter) {
			o.send(api.Message{Kind: api.KindWelcome, To: m.From, List: o.withSelf(o.p.View), Table: o.p.Table})
			o.p.View = sample.Admit(o.p.View, m.List[0], o.p.Node, o.c.View)
		}
	case api.KindWelcome:
		o.learn(m.Table)
		o.p.View = sample.Fill(o.p.View, o.good(m.List), o.p.Node, o.c.View)
	case api.KindShuffle:
		sent := cyclon.Pick(o.p.View, o.c.Swap, m.From, o.draws)
		o.send(api.Message{Kind: api.KindShuffled, To: m.From, List: sent})
		o.p.View = cyclon.Merge(o.p.View, o.good(m.List), sent, o.p.Node, o.c.View)
	case api.KindShuffled:
		if o.p.Wait.Some && o.p.Wait.Node == m.From {
			sent := o.p.Wait.Sent
			o.p.Wait = api.Wait{}
			o.p.View = cyclon.Merge(o.p.View, o.good(m.List), sent, o.p.Node, o.c.View)
		}
	case api.KindNear, api.KindProbe, api.KindRing:
		meets = m.List
	case api.KindBeat:
		o.learn(m.Table)
	case api.KindLeave:
		o.p.Table = pulse.Left(o.p.Table, m.From, m.Inc)
	}
	o.meet(meets)
	if m.Kind == api.KindProbe {
		o.send(api.Message{Kind: api.KindRing, To: m.From, List: o.withSelf(ring.List(o.p.Ring))})
	}
}

func (o *oracle) tick() {
	if !o.p.Up {
		return
	}
	o.p.View, o.p.Near, o.p.Ring = desc.Older(o.p.View), desc.Older(o.p.Near), ring.Older(o.p.Ring)
	o.p.Table, _ = pulse.Tick(o.p.Table, o.p.Node, o.c.Suspect)
	if w := o.p.Wait; w.Some {
		o.p.Wait.Left--
		if w.Left == 1 {
			o.p.Wait = api.Wait{}
			o.p.View = desc.Drop(o.p.View, w.Node)
		}
	}
	o.meet(nil)
	if !o.p.Wait.Some {
		if node, l, ok := cyclon.Ask(o.p.View, o.self(), o.c.Swap, o.draws); ok {
			o.send(api.Message{Kind: api.KindShuffle, To: node, List: l})
			o.p.Wait = api.Wait{Some: true, Node: node, Left: 2, Sent: l}
		}
	}
	if links := o.links(); len(links) > 0 {
		at := 0
		if len(o.draws) > o.c.Swap {
			at = int(o.draws[o.c.Swap]) % len(links)
		}
		o.send(api.Message{Kind: api.KindNear, To: links[at], List: o.withSelf(o.p.Near)})
	}
	if o.p.Ring.HasSucc {
		o.send(api.Message{Kind: api.KindProbe, To: o.p.Ring.Succ.Node, List: []api.Desc{o.self()}})
	}
	for _, d := range ring.List(o.p.Ring) {
		o.send(api.Message{Kind: api.KindBeat, To: d.Node, Table: o.p.Table})
	}
}

// same compares all that a and b have; empty lists are the same, nil or not.
func same(a, b any) bool {
	return fmt.Sprint(a) == fmt.Sprint(b)
}
