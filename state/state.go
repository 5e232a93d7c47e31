// Package state has what packages peer and node both do with all that a peer has.
package state

import (
	"slices"

	"grapevine/api"
	"grapevine/desc"
	"grapevine/filter"
	"grapevine/pulse"
	"grapevine/schema"
	"grapevine/stable"
)

// Copy returns p in memory of its own.
func Copy(p api.Peer) api.Peer {
	p.Filter = filter.Copy(p.Filter)
	p.View = desc.Copy(p.View)
	p.Near = desc.Copy(p.Near)
	p.Ring = copyRing(p.Ring)
	p.Wait.Sent = desc.Copy(p.Wait.Sent)
	p.Table = slices.Clone(p.Table)
	p.Heard = slices.Clone(p.Heard)
	p.Rows = slices.Clone(p.Rows)
	p.Reports = copyReports(p.Reports)
	p.Buffer.Events = copyEvents(p.Buffer.Events)
	p.Pulls = slices.Clone(p.Pulls)
	return p
}

// Learn returns p after it learnt a table: what a node with a new incarnation reported before counts no more.
func Learn(p api.Peer, table []api.Member) api.Peer {
	learnt := pulse.Merge(p.Table, table, p.Node)
	for k, m := range learnt {
		if m.Inc > p.Table[k].Inc {
			p.Reports = stable.Forget(p.Reports, uint8(k))
		}
	}
	p.Table = learnt
	return p
}

// Message returns a message of p, of which only the head is filled in.
func Message(p api.Peer, kind, to uint8) api.Message {
	return api.Message{Kind: kind, From: p.Node, Inc: p.Inc, To: to}
}

func copyRing(r api.Ring) api.Ring {
	r.Succ.Filter = filter.Copy(r.Succ.Filter)
	r.Pred.Filter = filter.Copy(r.Pred.Filter)
	return r
}

func copyReports(t api.Reports) api.Reports {
	var out api.Reports
	for _, row := range t {
		out = append(out, slices.Clone(row))
	}
	return out
}

func copyEvents(l []api.Event) []api.Event {
	var out []api.Event
	for _, e := range l {
		out = append(out, schema.Copy(e))
	}
	return out
}
