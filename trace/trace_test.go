package trace_test

import (
	"fmt"
	"math/rand"
	"testing"

	"grapevine/api"
	"grapevine/model"
	"grapevine/trace"
	"grapevine/world"
)

func config(nodes int) api.Config {
	return api.Config{
		Nodes: nodes, Schema: api.Schema{{From: 0, To: 9}}, View: 3, Swap: 2, Near: 2, Fanout: 2, Hops: 3,
		Window: 8, Buffer: 4, Pulls: 3, Patience: 3, Suspect: 3, Out: 50, Pool: 60, Last: 9,
	}
}

func span(from, to int32) api.Filter { return api.Filter{{From: from, To: to}} }

func id(node uint8, inc uint16, seq uint32) api.ID {
	return api.ID{Node: node, Inc: inc, Seq: seq}
}

func step(kind, node uint8) api.Step { return api.Step{Kind: kind, Node: node} }

func publish(node uint8, val int32) api.Step {
	return api.Step{Kind: api.StepPublish, Node: node, Vals: []int32{val}, Data: []byte{byte(val)}}
}

func want(node uint8, from, to int32) api.Step {
	return api.Step{Kind: api.StepSubscribe, Node: node, Filter: span(from, to)}
}

func delivery(node uint8, inc uint16, x api.ID) api.Answer {
	return api.Answer{Some: true, Delivery: api.Delivery{Node: node, Inc: inc, Event: api.Event{ID: x, Vals: []int32{3}}}}
}

// same compares all that a and b have; empty lists are the same, nil or not.
func same(a, b any) bool {
	return fmt.Sprint(a) == fmt.Sprint(b)
}

func TestExamples(t *testing.T) {
	w, _ := world.New(config(2), nil)
	m := trace.Model(w)
	if !same(m, model.New(2, w.Config.Schema, 9)) {
		t.Fatal(m)
	}
	start := step(api.StepStart, 0)
	if got := trace.Deeds(start, api.Answer{}); !same(got, []api.Deed{{What: api.DeedStart}}) {
		t.Error(got)
	}
	up, ok := trace.Follow(m, start, api.Answer{})
	want, _, _ := model.Do(m, api.Deed{What: api.DeedStart})
	if !ok || !same(up, want) || !up.Lives[0].Up || up.Lives[0].Inc != 1 {
		t.Error(up, ok)
	}
	if got, ok := trace.Follow(up, start, api.Answer{Err: api.ErrUp}); !ok || !same(got, up) {
		t.Error(got, ok)
	}
	if got, ok := trace.Follow(up, start, api.Answer{}); ok || !same(got, up) {
		t.Error(got, ok)
	}
	if got, ok := trace.Follow(up, publish(0, 3), api.Answer{Err: api.ErrFull}); !ok || !same(got, up) {
		t.Error(got, ok)
	}
	if got, ok := trace.Follow(m, publish(0, 3), api.Answer{Err: api.ErrFull}); ok || !same(got, m) {
		t.Error("it could not be published", got, ok)
	}
	if got := trace.Deeds(step(api.StepTick, 0), api.Answer{}); len(got) != 0 {
		t.Error(got)
	}
}

func TestDeeds(t *testing.T) {
	full := api.Step{Node: 3, Other: 4, At: 5, Filter: span(6, 7), Vals: []int32{8}, Data: []byte{9}}
	event := api.Event{Vals: []int32{8}, Data: []byte{9}}
	for kind, want := range map[uint8][]api.Deed{
		0: nil, api.StepTick: nil, api.StepDeliver: nil, api.StepDrop: nil, api.StepDouble: nil, api.StepBend: nil, api.StepMove: nil, api.StepJoin: nil, 14: nil, 255: nil,
		api.StepStart: {{What: api.DeedStart, Node: 3}}, api.StepLeave: {{What: api.DeedStop, Node: 3}}, api.StepCrash: {{What: api.DeedStop, Node: 3}},
		api.StepSubscribe: {{What: api.DeedSubscribe, Node: 3, Filter: span(6, 7)}}, api.StepUnsubscribe: {{What: api.DeedSubscribe, Node: 3}}, api.StepPublish: {{What: api.DeedPublish, Node: 3, Event: event}},
	} {
		s := full
		s.Kind = kind
		if got := trace.Deeds(s, api.Answer{ID: id(1, 1, 1)}); !same(got, want) {
			t.Error(kind, got)
		}
		a := delivery(5, 2, id(1, 2, 3))
		given := api.Deed{What: api.DeedDeliver, Node: 5, ID: id(1, 2, 3)}
		if got := trace.Deeds(s, a); !same(got, append(want, given)) {
			t.Error(kind, "with a delivery", got)
		}
		a.Err = api.ErrFull
		if got := trace.Deeds(s, a); len(got) != 0 {
			t.Error(kind, "with an error", got)
		}
	}
}

func TestFollow(t *testing.T) {
	m := model.New(2, api.Schema{{From: 0, To: 9}}, 2)
	for _, s := range []api.Step{step(api.StepStart, 0), want(0, 0, 4)} {
		m, _ = trace.Follow(m, s, api.Answer{})
	}
	do := func(m api.Service, l ...api.Deed) api.Service {
		for _, d := range l {
			m, _, _ = model.Do(m, d)
		}
		return m
	}
	deed := func(what, node uint8) api.Deed {
		return api.Deed{What: what, Node: node, Event: api.Event{Vals: []int32{3}, Data: []byte{3}}, ID: id(0, 1, 1)}
	}
	published := do(m, deed(api.DeedPublish, 0))
	got := delivery(0, 1, id(0, 1, 1))
	both := got
	both.ID = id(0, 1, 1)
	for i, c := range []struct {
		m    api.Service
		s    api.Step
		a    api.Answer
		want api.Service
		ok   bool
	}{
		{m, publish(0, 3), api.Answer{ID: id(0, 1, 1)}, published, true}, {m, publish(0, 3), api.Answer{ID: id(0, 1, 2)}, m, false}, {m, publish(0, 3), api.Answer{}, m, false}, {m, publish(1, 3), api.Answer{ID: id(1, 0, 1)}, m, false},
		{m, publish(0, 3), both, do(published, deed(api.DeedDeliver, 0)), true}, {m, publish(0, 5), both, m, false}, {m, publish(0, 3), got, m, false},
		{published, step(api.StepDeliver, 0), got, do(published, deed(api.DeedDeliver, 0)), true}, {m, step(api.StepDeliver, 0), got, m, false}, {do(published, deed(api.DeedDeliver, 0)), step(api.StepDeliver, 0), got, do(published, deed(api.DeedDeliver, 0)), false},
		{published, step(api.StepTick, 0), got, do(published, deed(api.DeedDeliver, 0)), true}, {published, step(api.StepTick, 0), api.Answer{}, published, true}, {published, step(99, 0), api.Answer{}, published, true},
		{m, step(api.StepTick, 0), api.Answer{Err: api.ErrDown}, m, true}, {m, step(api.StepDeliver, 0), api.Answer{Err: api.ErrSum}, m, true}, {m, step(99, 0), api.Answer{Err: api.ErrStep}, m, true}, {m, step(api.StepJoin, 0), api.Answer{Err: 999}, m, true},
		{m, step(api.StepLeave, 1), api.Answer{Err: api.ErrDown}, m, true}, {m, step(api.StepCrash, 1), api.Answer{Err: api.ErrDown}, m, true}, {m, step(api.StepCrash, 1), api.Answer{Err: api.ErrUp}, m, false}, {m, step(api.StepCrash, 0), api.Answer{Err: api.ErrDown}, m, false}, {m, step(api.StepCrash, 1), api.Answer{}, m, false}, {m, step(api.StepCrash, 9), api.Answer{Err: api.ErrArg}, m, true}, {m, step(api.StepCrash, 9), api.Answer{Err: api.ErrDown}, m, false},
		{m, step(api.StepLeave, 0), api.Answer{}, do(m, deed(api.DeedStop, 0)), true}, {m, step(api.StepCrash, 0), api.Answer{}, do(m, deed(api.DeedStop, 0)), true},
		{m, step(api.StepUnsubscribe, 0), api.Answer{}, do(m, api.Deed{What: api.DeedSubscribe}), true}, {m, api.Step{Kind: api.StepUnsubscribe, Filter: span(1, 1)}, api.Answer{}, do(m, api.Deed{What: api.DeedSubscribe}), true}, {m, want(0, 5, 6), api.Answer{}, do(m, api.Deed{What: api.DeedSubscribe, Filter: span(5, 6)}), true}, {m, want(1, 5, 6), api.Answer{Err: api.ErrDown}, m, true},
		{m, api.Step{Kind: api.StepSubscribe, Filter: make(api.Filter, 3)}, api.Answer{Err: api.ErrFilter}, m, true}, {m, api.Step{Kind: api.StepSubscribe, Filter: make(api.Filter, 3)}, api.Answer{}, m, false}, {m, want(0, 5, 6), api.Answer{Err: api.ErrFull}, m, false}, {m, step(api.StepStart, 1), api.Answer{Err: api.ErrFull}, m, false},
		{m, publish(0, 10), api.Answer{Err: api.ErrEvent}, m, true}, {m, publish(0, 10), api.Answer{Err: api.ErrFull}, m, false}, {m, publish(0, 3), api.Answer{Err: api.ErrFull}, m, true}, {m, publish(0, 3), api.Answer{Err: api.ErrSpent}, m, false}, {do(published, deed(api.DeedPublish, 0)), publish(0, 3), api.Answer{Err: api.ErrSpent}, do(published, deed(api.DeedPublish, 0)), true}, {do(published, deed(api.DeedPublish, 0)), publish(0, 3), api.Answer{Err: api.ErrFull}, m, false},
		{m, publish(0, 3), api.Answer{Err: api.ErrFull, Some: true}, m, true},
	} {
		if got, ok := trace.Follow(c.m, c.s, c.a); ok != c.ok || ok && !same(got, c.want) || !ok && !same(got, c.m) {
			t.Error(i, ok, got)
		}
	}
}

func random(r *rand.Rand, w api.World) api.Step {
	node := func() uint8 { return uint8(r.Intn(len(w.Peers) + 1)) }
	s := api.Step{Kind: uint8(r.Intn(15)), Node: node(), Other: node(), At: r.Intn(len(w.Net.L) + 1), To: r.Intn(len(w.Net.L) + 1), From: r.Intn(200), Turns: 1 << r.Intn(32)}
	if r.Intn(2) == 0 {
		s.Kind = api.StepDeliver
	}
	if (s.Kind == api.StepLeave || s.Kind == api.StepCrash) && r.Intn(3) > 0 {
		s.Kind = api.StepPublish
	}
	s.Filter = span(int32(r.Intn(5)), int32(r.Intn(14)))
	if r.Intn(20) == 0 {
		s.Filter = make(api.Filter, 2)
	}
	s.Vals, s.Data = []int32{int32(r.Intn(11))}, []byte{byte(r.Intn(256))}
	return s
}

// Whatever a world does, its service follows: step by step it is the service of the world after the step.
func TestAtRandom(t *testing.T) {
	r := rand.New(rand.NewSource(1))
	delivered := 0
	for range 60 {
		w, _ := world.New(config(2+r.Intn(4)), []uint32{r.Uint32(), r.Uint32(), r.Uint32()})
		for _, s := range []api.Step{step(api.StepStart, 0), step(api.StepStart, 1), {Kind: api.StepJoin, Node: 1}, want(1, 0, 9)} {
			w, _ = world.Do(w, s)
		}
		m := trace.Model(w)
		for range 250 {
			s := random(r, w)
			before := fmt.Sprint(w, s)
			next, a := world.Do(w, s)
			n, ok := trace.Follow(m, s, a)
			if !ok || !same(n, trace.Model(next)) || !model.Same(n, trace.Model(next)) {
				t.Fatal("not followed", s, a)
			}
			if wrong := a; a.Err == api.OK && s.Kind == api.StepPublish {
				wrong.ID.Seq++
				if _, ok := trace.Follow(m, s, wrong); ok {
					t.Fatal("another id")
				}
			}
			if a.Some {
				delivered++
				if _, ok := trace.Follow(n, api.Step{Kind: api.StepTick}, api.Answer{Some: true, Delivery: a.Delivery}); ok {
					t.Fatal("twice")
				}
			}
			if fmt.Sprint(w, s) != before {
				t.Fatal("changed")
			}
			w, m = next, n
		}
	}
	if delivered < 100 {
		t.Error("nothing happened", delivered)
	}
}

func TestModel(t *testing.T) {
	w, _ := world.New(config(3), nil)
	w.Peers[1].Inc, w.Peers[1].Up, w.Peers[1].Filter, w.Peers[1].Seq = 2, true, span(1, 2), 77
	w.Peers[2].Inc = 1
	w.Events = []api.Event{{ID: id(1, 1, 1)}, {ID: id(1, 2, 1), Vals: []int32{3}, Data: []byte{4}}, {ID: id(2, 1, 1)}, {ID: id(1, 2, 2)}}
	w.Log = []api.Delivery{{Node: 2, Inc: 1, Event: w.Events[1]}, {Node: 0, Inc: 5, Event: w.Events[0]}}
	got := trace.Model(w)
	if !same(got, api.Service{
		Lives: []api.Life{{}, {Inc: 2, Up: true, Filter: span(1, 2), Seq: 2}, {Inc: 1, Seq: 1}}, Schema: w.Config.Schema, Last: 9,
		Events: w.Events, Given: []api.Given{{Node: 2, Inc: 1, ID: id(1, 2, 1)}, {Node: 0, Inc: 5, ID: id(1, 1, 1)}},
	}) {
		t.Error(got)
	}
}

// What nobody made brings nothing down.
func TestAnything(t *testing.T) {
	trace.Model(api.World{})
	trace.Model(api.World{Peers: []api.Peer{{Node: 99}}, Events: make([]api.Event, 2), Log: make([]api.Delivery, 2)})
	for kind := range uint8(16) {
		for _, a := range []api.Answer{{}, {Err: 5}, {Some: true}} {
			trace.Follow(api.Service{}, step(kind, 200), a)
			trace.Follow(api.Service{Lives: make([]api.Life, 2)}, step(kind, 1), a)
		}
	}
}
