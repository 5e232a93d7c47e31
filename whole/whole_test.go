// Package whole tests what the whole program promises, P1 to P5.
package whole

import (
	"math/rand"
	"slices"
	"testing"

	"grapevine/api"
	"grapevine/buffer"
	"grapevine/desc"
	"grapevine/fair"
	"grapevine/filter"
	"grapevine/model"
	"grapevine/pull"
	"grapevine/ring"
	"grapevine/schema"
	"grapevine/seen"
	"grapevine/stable"
	"grapevine/trace"
	"grapevine/world"
)

func config(r *rand.Rand) api.Config {
	view := 1 + r.Intn(5)
	return api.Config{
		Nodes: 2 + r.Intn(5), Schema: api.Schema{{From: 0, To: 9}}, View: view, Swap: 1 + r.Intn(view), Near: r.Intn(4), Fanout: r.Intn(4), Hops: r.Intn(5),
		Window: 2 + r.Intn(8), Buffer: 1 + r.Intn(6), Pulls: 1 + r.Intn(4), Patience: 1 + r.Intn(4), Suspect: 2 + r.Intn(5), Out: 4 + r.Intn(40), Pool: 10 + r.Intn(90), Last: uint32(5 + r.Intn(40)),
	}
}

// begin is a world in which all are up, and joined one after the other.
func begin(r *rand.Rand, c api.Config) api.World {
	w, _ := world.New(c, []uint32{r.Uint32(), r.Uint32(), r.Uint32(), r.Uint32(), r.Uint32(), r.Uint32(), r.Uint32()})
	for node := range uint8(c.Nodes) {
		w, _ = world.Do(w, api.Step{Kind: api.StepStart, Node: node})
		w, _ = world.Do(w, want(node, 0, 9))
		if node > 0 {
			w, _ = world.Do(w, api.Step{Kind: api.StepJoin, Node: node, Other: node - 1})
		}
		w, _ = fair.Drain(w)
	}
	return w
}

func want(node uint8, from, to int32) api.Step {
	return api.Step{Kind: api.StepSubscribe, Node: node, Filter: api.Filter{{From: from, To: to}}}
}

// random is any step: whatever is lost, duplicated, corrupted or reordered, and whoever stops.
func random(r *rand.Rand, w api.World) api.Step {
	node := func() uint8 { return uint8(r.Intn(len(w.Peers))) }
	s := api.Step{Kind: uint8(1 + r.Intn(13)), Node: node(), Other: node(), At: r.Intn(len(w.Net.L) + 1), To: r.Intn(len(w.Net.L) + 1), From: r.Intn(200), Turns: r.Uint32()}
	switch r.Intn(8) {
	case 0, 1, 2:
		s.Kind = api.StepDeliver
	case 3:
		s.Kind = api.StepPublish
	}
	if (s.Kind == api.StepLeave || s.Kind == api.StepCrash || s.Kind == api.StepUnsubscribe) && r.Intn(4) > 0 {
		s.Kind = api.StepTick
	}
	s.Filter = api.Filter{{From: int32(r.Intn(5)), To: int32(4 + r.Intn(6))}}
	s.Vals, s.Data = []int32{int32(r.Intn(10))}, []byte{byte(r.Intn(256))}
	return s
}

// all runs worlds at random, and shows each step to a check.
func all(t *testing.T, seed int64, check func(before, after api.World, s api.Step, a api.Answer)) {
	t.Helper()
	r := rand.New(rand.NewSource(seed))
	published, delivered := 0, 0
	for range 50 {
		w := begin(r, config(r))
		for range 250 {
			s := random(r, w)
			next, a := world.Do(w, s)
			check(w, next, s, a)
			w = next
		}
		published, delivered = published+len(w.Events), delivered+len(w.Log)
	}
	if published < 500 || delivered < 500 {
		t.Error("too little happened", published, delivered)
	}
}

// P1: what is delivered was published, as it was; it matches what is wanted then; and no life of a node gets it twice.
func TestSafe(t *testing.T) {
	type life struct {
		node uint8
		inc  uint16
		id   api.ID
	}
	all(t, 1, func(before, after api.World, s api.Step, a api.Answer) {
		given := map[life]int{}
		for _, d := range after.Log {
			if given[life{d.Node, d.Inc, d.Event.ID}]++; given[life{d.Node, d.Inc, d.Event.ID}] > 1 {
				t.Fatal("twice", d)
			}
		}
		for _, d := range after.Log[len(before.Log):] {
			p := before.Peers[d.Node]
			if !slices.ContainsFunc(after.Events, func(e api.Event) bool { return schema.Same(e, d.Event) }) {
				t.Fatal("not published", d)
			}
			if !p.Up || p.Inc != d.Inc || !filter.Match(p.Filter, d.Event.Vals) {
				t.Fatal("not wanted", d)
			}
		}
	})
}

// P2: what is due is delivered within a bound of fair rounds; then nothing is owed.
func TestOwed(t *testing.T) {
	r := rand.New(rand.NewSource(2))
	for range 25 {
		c := config(r)
		c.View, c.Near, c.Suspect, c.Out, c.Pool, c.Buffer, c.Window = 5, 3, 200, 1000, 5000, 40, 40
		w := begin(r, c)
		for range 2 {
			w, _ = fair.Round(w) // so that each knows all others
		}
		for range 20 {
			w, _ = world.Do(w, api.Step{Kind: api.StepPublish, Node: uint8(r.Intn(c.Nodes)), Vals: []int32{int32(r.Intn(10))}})
			for len(w.Net.L) > 0 {
				w, _ = world.Do(w, api.Step{Kind: uint8(2 + r.Intn(2)), At: r.Intn(len(w.Net.L))}) // half of it is lost
			}
		}
		left := len(model.Owed(trace.Model(w)))
		for range fair.Bound(c) {
			var ok bool
			if w, ok = fair.Round(w); !ok {
				t.Fatal("busy")
			}
		}
		if w.Lost+w.Net.Lost > 0 {
			t.Fatal("lost for lack of room", w.Lost, w.Net.Lost)
		}
		if owed := model.Owed(trace.Model(w)); len(owed) > 0 {
			t.Fatal("owed still, of", left, owed)
		}
		if len(w.Log) != len(w.Events)*c.Nodes {
			t.Fatal("all want all", len(w.Log), len(w.Events))
		}
	}
}

// P3: an event is removed only when all that count have it, or its keeper needs room, or stops.
func TestKept(t *testing.T) {
	removed := 0
	all(t, 3, func(before, after api.World, s api.Step, a api.Answer) {
		for i, p := range before.Peers {
			q := after.Peers[i]
			if !q.Up || q.Inc != p.Inc {
				continue // it stopped
			}
			for _, e := range p.Buffer.Events {
				if buffer.Has(q.Buffer, e.ID) {
					continue
				}
				removed++
				switch own := e.ID.Node == p.Node && e.ID.Inc == p.Inc; {
				case q.Evicted == p.Evicted+1 && s.Kind == api.StepPublish && !own && len(p.Buffer.Events) == p.Buffer.Room:
				case q.Collected > p.Collected && s.Kind == api.StepTick && has(before, i, e.ID):
				default:
					t.Fatal("removed", e, p, q)
				}
			}
		}
	})
	if removed < 100 {
		t.Error("too little was removed", removed)
	}
}

// has reports whether all that count for a peer have the event, or will never take it: also in truth, not by its reports alone.
func has(w api.World, keeper int, x api.ID) bool {
	p := w.Peers[keeper]
	for k, m := range p.Table {
		q := w.Peers[k]
		if m.Inc == 0 || m.State == api.MemLeft || !q.Up || q.Inc != m.Inc {
			continue
		}
		if r := q.Rows[x.Node]; r.Inc < x.Inc || r.Inc == x.Inc && !seen.Has(r, x) {
			return false
		}
	}
	return stable.Stable(p.Reports, p.Table, p.Node, p.Rows, x)
}

// P4: whoever uses it sees nothing but the service.
func TestService(t *testing.T) {
	all(t, 4, func(before, after api.World, s api.Step, a api.Answer) {
		m, ok := trace.Follow(trace.Model(before), s, a)
		if !ok || !model.Same(m, trace.Model(after)) {
			t.Fatal("not followed", s, a)
		}
	})
}

// P5: views, buffers, asks and frames stay within their room; what is lost is counted.
func TestBounds(t *testing.T) {
	full, lost := 0, 0
	all(t, 5, func(before, after api.World, s api.Step, a api.Answer) {
		c := after.Config
		if len(after.Net.L) > c.Pool {
			t.Fatal("frames", len(after.Net.L))
		}
		for _, p := range after.Peers {
			ok := desc.Right(p.View, p.Node, c.View) && desc.Right(p.Near, p.Node, c.Near) && len(ring.List(p.Ring)) <= 2
			if !ok || !buffer.Right(p.Buffer) || p.Buffer.Room != c.Buffer || !pull.Right(p.Pulls, c.Pulls) {
				t.Fatal("bounds", p)
			}
			if len(p.Buffer.Events) == c.Buffer {
				full++
			}
			for _, r := range p.Rows {
				if !seen.Right(r, c.Window) {
					t.Fatal("rows", p)
				}
			}
		}
		sent := len(after.Net.L) - len(before.Net.L) + after.Net.Lost - before.Net.Lost + after.Lost - before.Lost
		lost = max(lost, after.Net.Lost)
		switch s.Kind {
		case api.StepDouble:
			if (a.Err == api.OK) != (sent == 1) {
				t.Fatal("a double, or one more that is lost", sent)
			}
		case api.StepTick, api.StepJoin, api.StepPublish, api.StepLeave:
			if sent < 0 {
				t.Fatal("lost, and not counted", sent)
			}
		case api.StepDeliver, api.StepDrop:
			if sent < -1 || s.Kind == api.StepDrop && a.Err == api.OK && sent != -1 {
				t.Fatal("lost, and not counted", sent)
			}
		default:
			if sent != 0 {
				t.Fatal("frames come and go", s, sent)
			}
		}
	})
	if full < 100 || lost < 1 {
		t.Error("no bound was met", full, lost)
	}
}
