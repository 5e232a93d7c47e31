package fair_test

import (
	"fmt"
	"math"
	"math/rand"
	"slices"
	"testing"

	"grapevine/api"
	"grapevine/fair"
	"grapevine/mesg"
	"grapevine/net"
	"grapevine/peer"
	"grapevine/world"
)

func config(nodes int) api.Config {
	return api.Config{
		Nodes: nodes, Schema: api.Schema{{From: 0, To: 9}}, View: 3, Swap: 2, Near: 2, Fanout: 2, Hops: 3,
		Window: 8, Buffer: 4, Pulls: 3, Patience: 3, Suspect: 3, Out: 50, Pool: 500, Last: 30,
	}
}

func id(node uint8, inc uint16, seq uint32) api.ID {
	return api.ID{Node: node, Inc: inc, Seq: seq}
}

func step(kind, node uint8) api.Step { return api.Step{Kind: kind, Node: node} }

func at(kind uint8, i int) api.Step { return api.Step{Kind: kind, At: i} }

func join(node, by uint8) api.Step { return api.Step{Kind: api.StepJoin, Node: node, Other: by} }

func publish(node uint8, val int32) api.Step {
	return api.Step{Kind: api.StepPublish, Node: node, Vals: []int32{val}}
}

func want(node uint8, from, to int32) api.Step {
	return api.Step{Kind: api.StepSubscribe, Node: node, Filter: api.Filter{{From: from, To: to}}}
}

func run(t *testing.T, w api.World, l ...api.Step) api.World {
	t.Helper()
	w, answers := world.Run(w, l)
	for i, a := range answers {
		if a.Err != api.OK {
			t.Fatal(i, a.Err)
		}
	}
	return w
}

// same compares all that a and b have; empty lists are the same, nil or not.
func same(a, b any) bool {
	return fmt.Sprint(a) == fmt.Sprint(b)
}

func TestBound(t *testing.T) {
	for _, c := range []struct{ patience, nodes, buffer, pulls, want int }{{3, 2, 4, 3, 8}, {1, 2, 1, 64, 4}, {5, 12, 16, 8, 31}, {255, 12, 64, 1, 1025}, {3, 3, 3, 3, 8}, {3, 5, 2, 3, 9}} {
		x := config(c.nodes)
		x.Patience, x.Buffer, x.Pulls = c.patience, c.buffer, c.pulls
		if got := fair.Bound(x); got != c.want {
			t.Error(c, got)
		}
	}
	for _, pulls := range []int{0, -1, math.MinInt} {
		x := config(2)
		x.Pulls = pulls
		fair.Bound(x)
	}
	fair.Bound(api.Config{Nodes: math.MaxInt, Buffer: math.MaxInt, Pulls: math.MaxInt, Patience: math.MaxInt})
}

// pair is two nodes, of which the second one joined the first one and wants all, and an event that was lost.
func pair(t *testing.T) api.World {
	w, _ := world.New(config(2), nil)
	return run(t, w, step(api.StepStart, 0), step(api.StepStart, 1), join(1, 0), at(api.StepDeliver, 0), at(api.StepDeliver, 0), want(1, 0, 9), publish(0, 5), at(api.StepDrop, 0))
}

func TestExamples(t *testing.T) {
	w := pair(t)
	if !fair.Due(w, 0, 1, id(0, 1, 1)) || len(w.Log) != 0 {
		t.Error("due")
	}
	if got := fair.Reach(w, 0); !slices.Equal(got, []uint8{0, 1}) {
		t.Error(got)
	}
	w, ok := fair.Round(w)
	if !ok || len(w.Log) != 1 || w.Log[0].Node != 1 || w.Log[0].Event.ID != id(0, 1, 1) || fair.Due(w, 0, 1, id(0, 1, 1)) {
		t.Error(ok, w.Log)
	}
}

func TestDue(t *testing.T) {
	w := pair(t)
	x := id(0, 1, 1)
	if !fair.Due(w, 0, 1, x) {
		t.Fatal("due")
	}
	for i, c := range []struct {
		holder, node uint8
		x            api.ID
	}{{1, 0, x}, {0, 0, x}, {1, 1, x}, {0, 1, id(0, 1, 2)}, {0, 1, api.ID{}}, {0, 2, x}, {2, 1, x}, {255, 1, x}, {0, 255, x}} {
		if fair.Due(w, c.holder, c.node, c.x) {
			t.Error(i)
		}
	}
	change := func(f func(w *api.World, holder, node *api.Peer)) api.World {
		v := w
		v.Peers = slices.Clone(w.Peers)
		for i := range v.Peers {
			v.Peers[i].Table = slices.Clone(v.Peers[i].Table)
			v.Peers[i].Rows = slices.Clone(v.Peers[i].Rows)
		}
		f(&v, &v.Peers[0], &v.Peers[1])
		return v
	}
	for i, c := range []struct {
		w    api.World
		want bool
	}{
		{change(func(w *api.World, h, p *api.Peer) {}), true}, {change(func(w *api.World, h, p *api.Peer) { h.Up = false }), false}, {change(func(w *api.World, h, p *api.Peer) { p.Up = false }), false},
		{change(func(w *api.World, h, p *api.Peer) { h.Table[1].State = api.MemSuspect }), true}, {change(func(w *api.World, h, p *api.Peer) { h.Table[1].State = api.MemLeft }), false}, {change(func(w *api.World, h, p *api.Peer) { h.Table[1].Inc = 2 }), false}, {change(func(w *api.World, h, p *api.Peer) { h.Table[1] = api.Member{} }), false},
		{change(func(w *api.World, h, p *api.Peer) { p.Inc = 2 }), false}, {change(func(w *api.World, h, p *api.Peer) { p.Table = make([]api.Member, 2) }), true},
		{change(func(w *api.World, h, p *api.Peer) { p.Filter = api.Filter{{From: 6, To: 9}} }), false}, {change(func(w *api.World, h, p *api.Peer) { p.Filter = nil }), false}, {change(func(w *api.World, h, p *api.Peer) { p.Rows[0] = api.Row{Inc: 1, Prefix: 1} }), false}, {change(func(w *api.World, h, p *api.Peer) { p.Rows[0] = api.Row{Inc: 2} }), false}, {change(func(w *api.World, h, p *api.Peer) { h.Buffer.Events = nil }), false},
	} {
		if got := fair.Due(c.w, 0, 1, x); got != c.want {
			t.Error(i, got)
		}
	}
}

func TestReach(t *testing.T) {
	w, _ := world.New(config(6), nil)
	links := map[uint8][]uint8{0: {1}, 1: {2}, 2: {0, 3}, 3: nil, 4: {0, 5}, 5: {4}}
	set := func(down ...uint8) {
		for node, l := range links {
			p := &w.Peers[node]
			p.Up, p.View, p.Near, p.Ring = !slices.Contains(down, node), nil, nil, api.Ring{}
			for i, link := range l {
				if d := (api.Desc{Node: link, Inc: 1}); i == 0 && node != 1 {
					p.View = []api.Desc{d}
				} else if node == 1 {
					p.Near = []api.Desc{d}
				} else {
					p.Ring.HasPred, p.Ring.Pred = true, d
				}
			}
		}
	}
	check := func(from uint8, want ...uint8) {
		t.Helper()
		if got := fair.Reach(w, from); !slices.Equal(got, want) {
			t.Error(from, got)
		}
	}
	set()
	check(0, 0, 1, 2, 3)
	check(2, 0, 1, 2, 3)
	check(3, 3)
	check(4, 0, 1, 2, 3, 4, 5)
	check(5, 0, 1, 2, 3, 4, 5)
	check(6)
	check(255)
	set(1)
	check(0, 0)
	check(1)
	check(4, 0, 4, 5)
	check(2, 0, 2, 3)
}

// A world is drained in the order of its frames, and a round ticks each node that is up, in increasing order.
func TestDrainRound(t *testing.T) {
	w := pair(t)
	w = run(t, w, step(api.StepTick, 1), publish(0, 3), api.Step{Kind: api.StepBend, At: 1, Turns: 7})
	v := w
	for n := 0; len(v.Net.L) > 0; n++ {
		if n > 1000 {
			t.Fatal("no end")
		}
		v, _ = world.Do(v, at(api.StepDeliver, 0))
	}
	got, ok := fair.Drain(w)
	if !ok || !same(got, v) {
		t.Error("Drain", ok)
	}
	for node := range uint8(2) {
		v, _ = world.Do(v, step(api.StepTick, node))
		v, _ = fair.Drain(v)
	}
	if got, ok := fair.Round(w); !ok || !same(got, v) {
		t.Error("Round", ok)
	}
	w = run(t, w, step(api.StepCrash, 0))
	v, _ = fair.Drain(w)
	v, _ = world.Do(v, step(api.StepTick, 1))
	v, _ = fair.Drain(v)
	if got, ok := fair.Round(w); !ok || !same(got, v) {
		t.Error("who is down does not tick", ok)
	}
	empty, _ := world.New(config(2), nil)
	if got, ok := fair.Drain(empty); !ok || !same(got, empty) {
		t.Error("nothing to drain", ok)
	}
	if got, ok := fair.Round(empty); !ok || !same(got, empty) {
		t.Error("nobody is up", ok)
	}
}

// A drain ends after 20000 deliveries, whatever is left; a round goes on then, but does not end well.
func TestDrainEnds(t *testing.T) {
	w, _ := world.New(config(2), nil)
	w, _ = world.Do(w, step(api.StepStart, 0))
	w.Net.L = make([]api.Parcel, 20002)
	got, ok := fair.Drain(w)
	if ok || len(got.Net.L) != 2 {
		t.Error(ok, len(got.Net.L))
	}
	w.Net.L = w.Net.L[:20001]
	got, ok = fair.Round(w)
	if ok || len(got.Net.L) != 0 || got.Peers[0].Count != 1 {
		t.Error(ok, len(got.Net.L), got.Peers[0].Count)
	}
}

// heardAll reports whether the node has in Heard, for the holder, the Inc and Count of that.
func heardAll(w api.World, holder, node uint8) bool {
	m, h := w.Peers[node].Heard[holder], w.Peers[holder]
	return m.Inc == h.Inc && m.Seq == h.Count
}

type due struct {
	holder, node uint8
	x            api.ID
}

func dues(w api.World) []due {
	var l []due
	for h, p := range w.Peers {
		for node := range w.Peers {
			for _, e := range p.Buffer.Events {
				if fair.Due(w, uint8(h), uint8(node), e.ID) {
					l = append(l, due{uint8(h), uint8(node), e.ID})
				}
			}
		}
	}
	return l
}

func random(r *rand.Rand, w api.World) api.Step {
	node := func() uint8 { return uint8(r.Intn(len(w.Peers))) }
	s := api.Step{Kind: uint8(1 + r.Intn(13)), Node: node(), Other: node(), At: r.Intn(len(w.Net.L) + 1), To: r.Intn(len(w.Net.L) + 1), From: r.Intn(200), Turns: 1 << r.Intn(32)}
	if r.Intn(3) == 0 {
		s.Kind = api.StepDeliver
	}
	if s.Kind >= api.StepLeave && r.Intn(4) > 0 || r.Intn(5) == 0 {
		s.Kind = api.StepPublish
	}
	s.Filter = api.Filter{{From: int32(r.Intn(5)), To: int32(5 + r.Intn(5))}}
	s.Vals = []int32{int32(r.Intn(10))}
	return s
}

func begin(r *rand.Rand) api.World {
	c := config(2 + r.Intn(5))
	c.Buffer, c.Pulls, c.Patience, c.Window, c.Fanout = 1+r.Intn(6), 1+r.Intn(4), 1+r.Intn(4), 2+r.Intn(9), r.Intn(3)
	w, _ := world.New(c, []uint32{r.Uint32(), r.Uint32(), r.Uint32(), r.Uint32(), r.Uint32()})
	for node := range uint8(c.Nodes) {
		w, _ = world.Do(w, step(api.StepStart, node))
		w, _ = world.Do(w, want(node, 0, 9))
		if node > 0 {
			w, _ = world.Do(w, join(node, node-1))
		}
		w, _ = fair.Drain(w)
	}
	return w
}

// What is due is delivered within the bound, whenever the holder's digests are heard of (P30.3).
func TestDelivered(t *testing.T) {
	r := rand.New(rand.NewSource(1))
	seen := 0
	for range 60 {
		w := begin(r)
		for range 80 {
			w, _ = world.Do(w, random(r, w))
		}
		for len(w.Net.L) > 0 && r.Intn(30) > 0 {
			w, _ = world.Do(w, at(uint8(2+r.Intn(2)), r.Intn(len(w.Net.L))))
		}
		w, _ = fair.Drain(w)
		left := dues(w)
		start := len(w.Log)
		for range fair.Bound(w.Config) {
			next, ok := fair.Round(w)
			if !ok || next.Lost != w.Lost || next.Net.Lost != w.Net.Lost {
				left = nil
			}
			w = next
			left = slices.DeleteFunc(left, func(d due) bool {
				return !heardAll(w, d.holder, d.node) || w.Peers[d.node].Rows[d.x.Node].Inc > d.x.Inc
			})
		}
		for _, d := range left {
			seen++
			if !slices.ContainsFunc(w.Log[start:], func(l api.Delivery) bool { return l.Node == d.node && l.Event.ID == d.x }) {
				t.Fatal("due, and not delivered", d, w.Config)
			}
		}
	}
	if seen < 20 {
		t.Error("nothing was due", seen)
	}
}

// settled reports whether all that are up know of one another that they are alive, and no meeting would change whom they know.
func settled(w api.World) bool {
	for _, p := range w.Peers {
		for n, q := range w.Peers {
			if p.Up && q.Up && n != int(p.Node) && (p.Table[n].Inc != q.Inc || p.Table[n].State != api.MemAlive) {
				return false
			}
		}
		m := peer.Meet(w.Config, p, nil)
		if p.Up && !(same(m.View, p.View) && same(m.Near, p.Near) && same(m.Ring, p.Ring)) {
			return false
		}
	}
	return len(w.Net.L) == 0
}

// The digests of a tick come to all that are reached (P30.4).
func TestHeard(t *testing.T) {
	r := rand.New(rand.NewSource(2))
	seen := 0
	for range 120 {
		w := begin(r)
		for range r.Intn(30) {
			w, _ = world.Do(w, random(r, w))
		}
		for range 6 {
			w, _ = fair.Round(w)
		}
		node := uint8(r.Intn(len(w.Peers)))
		if !w.Peers[node].Up {
			continue
		}
		known := settled(w)
		w, _ = world.Do(w, step(api.StepTick, node))
		for i := 0; i < len(w.Net.L); {
			if m, _ := mesg.Parse(w.Net.L[i].B); m.Kind == api.KindDigest {
				i++
			} else {
				w.Net, _ = net.Lose(w.Net, i)
			}
		}
		frames := w.Net
		w.Net.L = nil
		known = known && settled(w)
		w.Net = frames
		reached := fair.Reach(w, node)
		lost := w.Lost + w.Net.Lost
		w, ok := fair.Drain(w)
		if !known || !ok || lost != w.Lost+w.Net.Lost {
			continue
		}
		for _, n := range reached {
			if n != node && !heardAll(w, node, n) {
				t.Fatal("reached, and not heard of", node, n, reached)
			}
			seen++
		}
	}
	if seen < 50 {
		t.Error("nothing was reached", seen)
	}
}

// A round, and what asks, leave the world that they are given.
func TestMemory(t *testing.T) {
	r := rand.New(rand.NewSource(3))
	for range 10 {
		w := begin(r)
		w, _ = world.Do(w, publish(0, 3))
		before := fmt.Sprint(w)
		fair.Drain(w)
		fair.Round(w)
		fair.Reach(w, 0)
		fair.Due(w, 0, 1, id(0, 1, 1))
		if fmt.Sprint(w) != before {
			t.Fatal("changed")
		}
	}
}

// Worlds that nobody made bring nothing down.
func TestAnything(t *testing.T) {
	odd := api.World{Config: config(5), Peers: []api.Peer{{Node: 77, Up: true}, {Up: true, View: []api.Desc{{Node: 200}, {Node: 0}}, Buffer: api.Buffer{Events: make([]api.Event, 2)}}}, Net: api.Net{L: make([]api.Parcel, 3)}}
	for _, w := range []api.World{{}, odd} {
		fair.Drain(w)
		fair.Round(w)
		for _, a := range []uint8{0, 1, 2, 255} {
			fair.Reach(w, a)
			for _, b := range []uint8{0, 1, 2, 255} {
				fair.Due(w, a, b, api.ID{})
			}
		}
	}
}
