package ring_test

import (
	"math/rand"
	"slices"
	"testing"

	"grapevine/api"
	"grapevine/near"
	"grapevine/ring"
	"grapevine/score"
)

var one = api.Schema{{From: 0, To: 9}}

func of(node uint8, inc uint16, age uint8, at int32) api.Desc {
	return api.Desc{Node: node, Inc: inc, Age: age, Filter: api.Filter{{From: at, To: at}}}
}

func equal(a, b api.Desc) bool {
	return a.Node == b.Node && a.Inc == b.Inc && a.Age == b.Age && slices.Equal(a.Filter, b.Filter)
}

func same(a, b api.Ring) bool {
	return a.HasSucc == b.HasSucc && a.HasPred == b.HasPred && equal(a.Succ, b.Succ) && equal(a.Pred, b.Pred)
}

func both(succ, pred api.Desc) api.Ring {
	return api.Ring{HasSucc: true, Succ: succ, HasPred: true, Pred: pred}
}

func TestExamples(t *testing.T) {
	two, first := of(2, 1, 0, 0), of(1, 1, 0, 9)
	if ring.Place(one, two) != 2 || ring.Place(one, first) != 769 || ring.Place(one, api.Desc{Node: 255}) != 255 {
		t.Error("Place")
	}
	if got := ring.Choose(one, of(5, 1, 0, 0), []api.Desc{two}, []api.Desc{first}); !same(got, both(first, two)) {
		t.Error(got)
	}
	for i, lists := range [][][]api.Desc{nil, {nil}, {{of(5, 9, 0, 3)}, nil}, {{of(4, 0, 0, 3)}}} {
		if got := ring.Choose(one, of(5, 1, 0, 0), lists...); !same(got, api.Ring{}) {
			t.Error("nobody", i, got)
		}
	}
	if got := ring.Choose(one, of(5, 1, 0, 0), []api.Desc{two}); !same(got, both(two, two)) {
		t.Error("one alone", got)
	}
	if got := ring.Choose(one, of(5, 1, 0, 0), []api.Desc{two}, []api.Desc{of(2, 1, 0, 9), of(2, 2, 5, 5)}); !same(got, both(of(2, 2, 5, 5), of(2, 2, 5, 5))) {
		t.Error("the newest one", got)
	}
}

func TestPlace(t *testing.T) {
	s := api.Schema{{From: 0, To: 9}, {From: 0, To: 9}, {From: 0, To: 9}, {From: 0, To: 9}}
	top := api.Desc{Node: 255, Filter: api.Filter{{From: 9, To: 9}, {From: 9, To: 9}, {From: 9, To: 9}, {From: 9, To: 9}}}
	if got := ring.Place(s, top); got != 65535 {
		t.Error(got)
	}
	r := rand.New(rand.NewSource(3))
	for range 500 {
		d := api.Desc{Node: uint8(r.Intn(256)), Inc: uint16(r.Intn(9)), Age: uint8(r.Intn(256))}
		for range 4 {
			from := int32(r.Intn(10))
			d.Filter = append(d.Filter, api.Span{From: from, To: from + int32(r.Intn(int(10-from)))})
		}
		if got := ring.Place(s, d); int(got) != int(score.Key(s, d.Filter))*256+int(d.Node) {
			t.Fatal(d, got)
		}
	}
}

func TestFar(t *testing.T) {
	for _, c := range []struct{ from, to, want uint16 }{{769, 2, 64769}, {2, 769, 767}, {5, 5, 0}, {0, 65535, 65535}, {65535, 0, 1}, {1, 0, 65535}} {
		if got := ring.Far(c.from, c.to); got != c.want {
			t.Error(c, got)
		}
	}
}

func TestList(t *testing.T) {
	a, b := of(1, 3, 4, 0), of(2, 1, 7, 5)
	for i, c := range []struct {
		r    api.Ring
		want []api.Desc
	}{
		{api.Ring{}, nil},
		{both(a, b), []api.Desc{a, b}}, {both(b, a), []api.Desc{a, b}}, {both(a, a), []api.Desc{a}},
		{api.Ring{HasSucc: true, Succ: a}, []api.Desc{a}}, {api.Ring{HasPred: true, Pred: b}, []api.Desc{b}},
		{both(a, of(1, 4, 9, 1)), []api.Desc{of(1, 4, 9, 1)}}, {both(of(1, 4, 9, 1), a), []api.Desc{of(1, 4, 9, 1)}},
		{both(a, of(1, 3, 3, 1)), []api.Desc{of(1, 3, 3, 1)}}, {both(of(1, 3, 3, 1), a), []api.Desc{of(1, 3, 3, 1)}},
		{both(a, of(1, 3, 4, 9)), []api.Desc{a}}, {both(of(1, 3, 4, 9), a), []api.Desc{of(1, 3, 4, 9)}}, {both(of(0, 1, 1, 1), of(0, 2, 1, 1)), []api.Desc{of(0, 2, 1, 1)}},
	} {
		if got := ring.List(c.r); !slices.EqualFunc(got, c.want, equal) {
			t.Error(i, got)
		}
	}
}

func TestDropOlder(t *testing.T) {
	a, b := of(1, 3, 4, 0), of(0, 1, 255, 5)
	for i, c := range []struct {
		r    api.Ring
		node uint8
		want api.Ring
	}{
		{both(a, b), 1, api.Ring{HasPred: true, Pred: b}}, {both(a, b), 0, api.Ring{HasSucc: true, Succ: a}}, {both(a, b), 7, both(a, b)},
		{both(a, a), 1, api.Ring{}}, {api.Ring{}, 0, api.Ring{}}, {api.Ring{HasSucc: true, Succ: a}, 0, api.Ring{HasSucc: true, Succ: a}}, {api.Ring{HasPred: true, Pred: b}, 0, api.Ring{}},
	} {
		if got := ring.Drop(c.r, c.node); !same(got, c.want) {
			t.Error(i, got)
		}
	}
	if got := ring.Older(both(a, b)); !same(got, both(of(1, 3, 5, 0), b)) {
		t.Error(got)
	}
	if got := ring.Older(both(of(1, 3, 254, 0), of(2, 1, 0, 5))); !same(got, both(of(1, 3, 255, 0), of(2, 1, 1, 5))) {
		t.Error(got)
	}
	if got := ring.Older(api.Ring{}); !same(got, api.Ring{}) {
		t.Error("nobody grows older", got)
	}
	if got := ring.Older(api.Ring{HasPred: true, Pred: a}); !same(got, api.Ring{HasPred: true, Pred: of(1, 3, 5, 0)}) {
		t.Error(got)
	}
}

func TestAtRandom(t *testing.T) {
	r := rand.New(rand.NewSource(1))
	for range 2000 {
		var l []api.Desc
		for range r.Intn(8) {
			d := of(uint8(r.Intn(9)), uint16(r.Intn(3)), uint8(r.Intn(3)), int32(r.Intn(10)))
			if r.Intn(5) == 0 {
				d.Filter = nil
			}
			l = append(l, d)
		}
		self := of(uint8(r.Intn(9)), 1, 0, int32(r.Intn(10)))
		got := ring.Choose(one, self, l[:len(l)/2], l[len(l)/2:])
		known := near.Union(self.Node, l)
		if got.HasSucc != (len(known) > 0) || got.HasPred != (len(known) > 0) {
			t.Fatal(l, got)
		}
		here := int(ring.Place(one, self))
		for _, d := range known {
			there := int(ring.Place(one, d))
			if far(here, int(ring.Place(one, got.Succ))) > far(here, there) || far(int(ring.Place(one, got.Pred)), here) > far(there, here) {
				t.Fatal("somebody is nearer", self, l, got, d)
			}
			if d.Node == got.Succ.Node && !equal(d, got.Succ) || d.Node == got.Pred.Node && !equal(d, got.Pred) {
				t.Fatal("not as it is known", l, got)
			}
		}
	}
}

func far(from, to int) int { return (to - from + 65536) % 65536 }

// If each of some nodes knows all others, their successors make one cycle.
func TestCycle(t *testing.T) {
	r := rand.New(rand.NewSource(2))
	for range 300 {
		var all []api.Desc
		for _, node := range r.Perm(12)[:2+r.Intn(10)] {
			all = append(all, of(uint8(node), 1, 0, int32(r.Intn(10))))
		}
		rings := map[uint8]api.Ring{}
		for _, d := range all {
			rings[d.Node] = ring.Choose(one, d, all)
		}
		at, met := all[0].Node, 0
		for range all {
			next := rings[at].Succ.Node
			if rings[next].Pred.Node != at {
				t.Fatal("no predecessor of its successor", all)
			}
			at = next
			if met++; at == all[0].Node {
				break
			}
		}
		if met != len(all) || at != all[0].Node {
			t.Fatal("no cycle through all", all)
		}
	}
}

func TestMemory(t *testing.T) {
	a, b, c := of(1, 3, 4, 0), of(2, 1, 7, 5), of(3, 1, 1, 9)
	l := []api.Desc{a, b}
	chosen := ring.Choose(one, c, l)
	alone := ring.Choose(one, c, l[:1])
	alone.Succ.Filter[0].From = 77
	if alone.Pred.Filter[0].From != 0 {
		t.Error("successor and predecessor share memory")
	}
	dropped, older := ring.Drop(both(a, b), 9), ring.Older(both(a, b))
	out := append(ring.List(both(a, b)), chosen.Succ, chosen.Pred, dropped.Succ, dropped.Pred, older.Succ, older.Pred)
	later := of(1, 4, 0, 3)
	for _, r := range []api.Ring{both(a, a), both(b, a), both(a, later), both(later, a), {HasSucc: true, Succ: a}, {HasPred: true, Pred: a}} {
		out = append(out, ring.List(r)...)
	}
	for _, d := range out {
		d.Filter[0].From = 99
	}
	if !equal(a, of(1, 3, 4, 0)) || !equal(b, of(2, 1, 7, 5)) || !equal(c, of(3, 1, 1, 9)) || !equal(later, of(1, 4, 0, 3)) {
		t.Error("shared", a, b, c, later)
	}
}

// What is no ring, and no right filter, brings nothing down.
func TestAnything(t *testing.T) {
	odd := api.Desc{Node: 3, Filter: api.Filter{{From: 9, To: 0}, {}, {}}}
	for _, s := range []api.Schema{nil, {{From: 5, To: 4}}, make(api.Schema, 9)} {
		ring.Place(s, odd)
		ring.Choose(s, odd, []api.Desc{odd, of(1, 1, 1, 1)}, nil)
	}
	ring.List(api.Ring{Succ: odd})
	ring.Drop(api.Ring{Succ: odd}, 3)
	ring.Older(api.Ring{Pred: odd})
}
