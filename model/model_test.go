package model_test

import (
	"fmt"
	"math"
	"math/rand"
	"reflect"
	"slices"
	"testing"

	"grapevine/api"
	"grapevine/model"
)

var one = api.Schema{{From: 0, To: 9}}

func span(from, to int32) api.Filter { return api.Filter{{From: from, To: to}} }

func id(node uint8, inc uint16, seq uint32) api.ID {
	return api.ID{Node: node, Inc: inc, Seq: seq}
}

func start(node uint8) api.Deed { return api.Deed{What: api.DeedStart, Node: node} }

func stop(node uint8) api.Deed { return api.Deed{What: api.DeedStop, Node: node} }

func want(node uint8, from, to int32) api.Deed {
	return api.Deed{What: api.DeedSubscribe, Node: node, Filter: span(from, to)}
}

func publish(node uint8, vals ...int32) api.Deed {
	return api.Deed{What: api.DeedPublish, Node: node, Event: api.Event{Vals: vals, Data: []byte{byte(len(vals)), 7}}}
}

func deliver(node uint8, x api.ID) api.Deed {
	return api.Deed{What: api.DeedDeliver, Node: node, ID: x}
}

func TestExamples(t *testing.T) {
	s := model.New(2, one, 2)
	for i, c := range []struct {
		d    api.Deed
		id   api.ID
		err  api.Errno
		owed []api.Given
	}{
		{start(0), api.ID{}, api.OK, nil},
		{start(1), api.ID{}, api.OK, nil},
		{want(1, 3, 5), api.ID{}, api.OK, nil},
		{publish(0, 4), id(0, 1, 1), api.OK, []api.Given{{Node: 1, Inc: 1, ID: id(0, 1, 1)}}},
		{deliver(1, id(0, 1, 1)), api.ID{}, api.OK, nil},
		{deliver(1, id(0, 1, 1)), api.ID{}, api.ErrGiven, nil},
		{publish(0, 7), id(0, 1, 2), api.OK, nil},
		{deliver(1, id(0, 1, 2)), api.ID{}, api.ErrApart, nil},
		{publish(0, 1), api.ID{}, api.ErrSpent, nil},
		{stop(1), api.ID{}, api.OK, nil},
		{start(1), api.ID{}, api.OK, nil},
		{want(1, 0, 9), api.ID{}, api.OK, []api.Given{{Node: 1, Inc: 2, ID: id(0, 1, 1)}, {Node: 1, Inc: 2, ID: id(0, 1, 2)}}},
	} {
		next, x, err := model.Do(s, c.d)
		if may := model.May(s, c.d); x != c.id || err != c.err || may != (err == api.OK) || err != api.OK && !model.Same(next, s) {
			t.Error(i, x, err)
		}
		s = next
		if got := model.Owed(s); !slices.Equal(got, c.owed) {
			t.Error(i, got)
		}
	}
	if !slices.Equal(s.Given, []api.Given{{Node: 1, Inc: 1, ID: id(0, 1, 1)}}) || len(s.Events) != 2 || s.Lives[0].Seq != 2 || s.Lives[1].Inc != 2 {
		t.Error(s)
	}
}

func TestNew(t *testing.T) {
	for nodes, n := range map[int]int{0: 0, -1: 0, math.MinInt: 0, 1: 1, 12: 12, 13: 12, math.MaxInt: 12} {
		s := model.New(nodes, one, 5)
		if len(s.Lives) != n || s.Last != 5 || !slices.Equal(s.Schema, one) || len(s.Events)+len(s.Given) != 0 {
			t.Error(nodes, s)
		}
		for _, l := range s.Lives {
			if !reflect.DeepEqual(l, api.Life{}) {
				t.Error(nodes, l)
			}
		}
	}
}

// Of several errors the one that is named first is returned.
func TestErrors(t *testing.T) {
	s := model.New(3, one, 1)
	for _, d := range []api.Deed{start(0), want(0, 0, 5), publish(0, 3), start(1), want(1, 0, 5), deliver(1, id(0, 1, 1))} {
		s, _, _ = model.Do(s, d)
	}
	s.Lives[2].Inc = api.MaxInc
	long := publish(1, 3)
	long.Event.Data = make([]byte, 65)
	whole := publish(1, 9)
	whole.Event.Data = make([]byte, 64)
	for i, c := range []struct {
		d   api.Deed
		err api.Errno
	}{
		{api.Deed{}, api.ErrDeed}, {api.Deed{What: 6}, api.ErrDeed}, {api.Deed{What: 255, Node: 99}, api.ErrDeed},
		{start(3), api.ErrArg}, {stop(255), api.ErrArg}, {want(3, 0, 1), api.ErrArg}, {publish(3), api.ErrArg}, {deliver(3, id(0, 1, 1)), api.ErrArg},
		{start(0), api.ErrUp}, {start(2), api.ErrSpent}, {stop(2), api.ErrDown}, {want(2, 0, 1), api.ErrDown}, {publish(2), api.ErrDown}, {publish(2, 3), api.ErrDown}, {deliver(2, id(0, 1, 1)), api.ErrDown}, {deliver(2, id(9, 9, 9)), api.ErrDown},
		{api.Deed{What: api.DeedSubscribe, Node: 2, Filter: make(api.Filter, 2)}, api.ErrDown}, {api.Deed{What: api.DeedSubscribe, Node: 1, Filter: make(api.Filter, 2)}, api.ErrFilter}, {api.Deed{What: api.DeedSubscribe, Node: 1}, api.OK},
		{publish(0, 3), api.ErrSpent}, {publish(0, 10), api.ErrEvent}, {publish(1, 10), api.ErrEvent}, {publish(1, -1), api.ErrEvent}, {publish(1), api.ErrEvent}, {publish(1, 1, 1), api.ErrEvent}, {long, api.ErrEvent}, {whole, api.OK}, {publish(1, 0), api.OK},
		{deliver(1, id(0, 1, 2)), api.ErrUnknown}, {deliver(1, api.ID{}), api.ErrUnknown}, {deliver(1, id(0, 1, 1)), api.ErrGiven}, {deliver(0, id(0, 1, 1)), api.OK},
	} {
		next, x, err := model.Do(s, c.d)
		if err != c.err || model.May(s, c.d) != (err == api.OK) {
			t.Error(i, err)
		}
		if err != api.OK && (x != (api.ID{}) || !model.Same(next, s)) {
			t.Error(i, "changed", x, next)
		}
	}
	apart, _, _ := model.Do(s, want(1, 9, 9))
	if _, _, err := model.Do(apart, deliver(1, id(0, 1, 1))); err != api.ErrApart {
		t.Error("ErrApart before ErrGiven", err)
	}
}

func TestEffects(t *testing.T) {
	s := model.New(2, one, 9)
	do := func(d api.Deed) {
		t.Helper()
		d.Event.ID = id(7, 7, 7) // an id that is asked for does not matter
		next, _, err := model.Do(s, d)
		if err != api.OK {
			t.Fatal(d, err)
		}
		s = next
	}
	life := func(want api.Life) {
		t.Helper()
		if !reflect.DeepEqual(s.Lives[1], want) || !reflect.DeepEqual(s.Lives[0], api.Life{}) {
			t.Error(s.Lives)
		}
	}
	do(start(1))
	life(api.Life{Inc: 1, Up: true})
	do(want(1, -4, 3))
	life(api.Life{Inc: 1, Up: true, Filter: span(0, 3)})
	do(publish(1, 2))
	do(publish(1, 3))
	life(api.Life{Inc: 1, Up: true, Filter: span(0, 3), Seq: 2})
	if e := s.Events[1]; e.ID != id(1, 1, 2) || !slices.Equal(e.Vals, []int32{3}) || !slices.Equal(e.Data, []byte{1, 7}) {
		t.Error(e)
	}
	do(want(1, 20, 30))
	life(api.Life{Inc: 1, Up: true, Seq: 2})
	do(want(1, 1, 1))
	do(stop(1))
	life(api.Life{Inc: 1, Seq: 2})
	do(start(1))
	life(api.Life{Inc: 2, Up: true})
	do(want(1, 0, 2))
	if got := model.Owed(s); !slices.Equal(got, []api.Given{{Node: 1, Inc: 2, ID: id(1, 1, 1)}}) {
		t.Error("an event of a life that is over may still be delivered", got)
	}
	do(deliver(1, id(1, 1, 1)))
	if !slices.Equal(s.Given, []api.Given{{Node: 1, Inc: 2, ID: id(1, 1, 1)}}) {
		t.Error(s.Given)
	}
}

func TestSame(t *testing.T) {
	full := func() api.Service {
		return api.Service{
			Lives: []api.Life{{Inc: 1, Up: true, Filter: span(1, 2), Seq: 3}, {}}, Schema: api.Schema{{From: 1, To: 2}}, Last: 4,
			Events: []api.Event{{ID: id(1, 2, 3), Vals: []int32{4}, Data: []byte{5}}, {}}, Given: []api.Given{{Node: 1, Inc: 2, ID: id(3, 4, 5)}, {}},
		}
	}
	if !model.Same(full(), full()) || !model.Same(api.Service{}, api.Service{Lives: []api.Life{}, Schema: api.Schema{}, Events: []api.Event{}, Given: []api.Given{}}) {
		t.Error("the same")
	}
	for i, change := range []func(*api.Service){
		func(s *api.Service) { s.Lives[0].Inc++ }, func(s *api.Service) { s.Lives[0].Up = false }, func(s *api.Service) { s.Lives[0].Filter[0].To++ }, func(s *api.Service) { s.Lives[0].Filter = nil }, func(s *api.Service) { s.Lives[0].Seq++ }, func(s *api.Service) { s.Lives = s.Lives[:1] },
		func(s *api.Service) { s.Schema[0].To++ }, func(s *api.Service) { s.Schema = nil }, func(s *api.Service) { s.Last++ },
		func(s *api.Service) { s.Events[0].ID.Seq++ }, func(s *api.Service) { s.Events[0].Vals[0]++ }, func(s *api.Service) { s.Events[0].Data[0]++ }, func(s *api.Service) { s.Events = s.Events[:1] }, func(s *api.Service) { s.Events[0], s.Events[1] = s.Events[1], s.Events[0] },
		func(s *api.Service) { s.Given[0].Node++ }, func(s *api.Service) { s.Given[0].Inc++ }, func(s *api.Service) { s.Given[0].ID.Node++ }, func(s *api.Service) { s.Given = s.Given[:1] }, func(s *api.Service) { s.Given[0], s.Given[1] = s.Given[1], s.Given[0] },
	} {
		s := full()
		change(&s)
		if model.Same(s, full()) || model.Same(full(), s) {
			t.Error(i)
		}
	}
}

func random(r *rand.Rand, s api.Service) api.Deed {
	d := api.Deed{What: uint8(1 + r.Intn(6)), Node: uint8(r.Intn(len(s.Lives) + 1)), Filter: span(int32(r.Intn(6)), int32(r.Intn(10))), ID: id(uint8(r.Intn(3)), uint16(r.Intn(3)), uint32(r.Intn(4)))}
	d.Event = api.Event{ID: d.ID, Vals: []int32{int32(r.Intn(11))}, Data: []byte{byte(r.Intn(256))}}
	if len(s.Events) > 0 && r.Intn(3) > 0 {
		d.ID = s.Events[r.Intn(len(s.Events))].ID
	}
	return d
}

func TestAtRandom(t *testing.T) {
	r := rand.New(rand.NewSource(1))
	for range 200 {
		s := model.New(3, one, 3)
		for range 60 {
			owed := model.Owed(s)
			for node := range uint8(3) {
				for _, e := range append(slices.Clone(s.Events), api.Event{ID: id(2, 2, 9)}) {
					g := api.Given{Node: node, Inc: s.Lives[node].Inc, ID: e.ID}
					if model.May(s, deliver(node, e.ID)) != slices.Contains(owed, g) {
						t.Fatal("owed, or not", s, g)
					}
				}
			}
			d := random(r, s)
			next, x, err := model.Do(s, d)
			if err == api.OK && d.What == api.DeedDeliver {
				g := api.Given{Node: d.Node, Inc: s.Lives[d.Node].Inc, ID: d.ID}
				left := slices.DeleteFunc(owed, func(o api.Given) bool { return o == g })
				if !slices.Equal(model.Owed(next), left) || slices.Contains(s.Given, g) {
					t.Fatal("owed still", next, g)
				}
			}
			if err == api.OK && d.What == api.DeedPublish && slices.ContainsFunc(s.Events, func(e api.Event) bool { return e.ID == x }) {
				t.Fatal("an id twice", x)
			}
			s = next
		}
		node, at := -1, 0
		for _, g := range model.Owed(s) {
			if int(g.Node) != node {
				if int(g.Node) < node {
					t.Fatal("node by node")
				}
				node, at = int(g.Node), 0
			}
			found := slices.IndexFunc(s.Events[at:], func(e api.Event) bool { return e.ID == g.ID })
			if found < 0 {
				t.Fatal("not in the order in which they were published")
			}
			at += found + 1
		}
	}
}

func TestMemory(t *testing.T) {
	r := rand.New(rand.NewSource(2))
	for range 50 {
		sch := api.Schema{{From: 0, To: 9}}
		s := model.New(3, sch, 9)
		if shared([]any{s}, []any{sch}) {
			t.Fatal("New shares")
		}
		for range 40 {
			d := random(r, s)
			before := fmt.Sprint(s, d)
			next, _, _ := model.Do(s, d)
			model.May(s, d)
			if fmt.Sprint(s, d) != before || shared([]any{next}, []any{s, d}) || shared([]any{model.Owed(s)}, []any{s}) {
				t.Fatal("changed, or shared", d)
			}
			s = next
		}
	}
}

// What lies behind the lists of a service stays, too.
func TestBehind(t *testing.T) {
	s := model.New(2, one, 9)
	for _, d := range []api.Deed{start(0), want(0, 0, 9), publish(0, 1), publish(0, 2), deliver(0, id(0, 1, 1))} {
		s, _, _ = model.Do(s, d)
	}
	events, given := append(make([]api.Event, 0, 9), s.Events...), append(make([]api.Given, 0, 9), s.Given...)
	s.Events, s.Given = events, given
	for _, d := range []api.Deed{publish(0, 3), deliver(0, id(0, 1, 2))} {
		model.Do(s, d)
		model.May(s, d)
	}
	if events[:3][2].ID != (api.ID{}) || given[:2][1] != (api.Given{}) {
		t.Error("changed", events[:3], given[:2])
	}
}

// Services that nobody made bring nothing down.
func TestAnything(t *testing.T) {
	for _, s := range []api.Service{{}, {Lives: make([]api.Life, 300), Events: make([]api.Event, 3), Given: make([]api.Given, 3)}, {Lives: []api.Life{{Up: true, Inc: 9, Filter: span(3, 1)}}, Events: []api.Event{{Vals: []int32{2}}}}} {
		for what := range uint8(8) {
			for _, node := range []uint8{0, 1, 255} {
				model.Do(s, api.Deed{What: what, Node: node, Filter: span(5, 1), Event: api.Event{Vals: []int32{1}}})
				model.May(s, api.Deed{What: what, Node: node})
			}
		}
		model.Owed(s)
		model.Same(s, s)
	}
	model.New(3, nil, 0)
}
