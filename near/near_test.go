package near_test

import (
	"math"
	"math/rand"
	"slices"
	"testing"

	"grapevine/api"
	"grapevine/desc"
	"grapevine/near"
	"grapevine/score"
)

func of(node uint8, inc uint16, age uint8, from, to int32) api.Desc {
	return api.Desc{Node: node, Inc: inc, Age: age, Filter: api.Filter{{From: from, To: to}}}
}

func same(a, b []api.Desc) bool {
	return slices.EqualFunc(a, b, equal)
}

func equal(a, b api.Desc) bool {
	return a.Node == b.Node && a.Inc == b.Inc && a.Age == b.Age && slices.Equal(a.Filter, b.Filter)
}

var own = api.Filter{{From: 0, To: 9}}

func TestBetter(t *testing.T) {
	for i, c := range []struct {
		a, b api.Desc
		want bool
	}{
		{of(9, 1, 9, 5, 20), of(1, 1, 0, 0, 2), true}, {of(1, 1, 0, 0, 2), of(9, 1, 9, 5, 20), false},
		{of(9, 1, 1, 0, 2), of(1, 1, 2, 3, 5), true}, {of(1, 1, 2, 3, 5), of(9, 1, 1, 0, 2), false},
		{of(1, 1, 2, 3, 5), of(9, 5, 2, 0, 2), true}, {of(9, 5, 2, 0, 2), of(1, 1, 2, 3, 5), false},
		{of(1, 1, 2, 3, 5), of(1, 1, 2, 3, 5), false}, {of(1, 1, 2, 30, 50), of(2, 1, 2, 30, 90), true},
		{of(1, 1, 2, 30, 50), of(2, 1, 9, 9, 90), false}, {of(2, 1, 9, 9, 90), of(1, 1, 2, 30, 50), true}, {of(1, 0, 1, 0, 0), of(1, 9, 2, 0, 0), true},
	} {
		if got := near.Better(own, c.a, c.b); got != c.want {
			t.Error(i, got)
		}
	}
	if near.Better(nil, of(1, 1, 1, 0, 9), of(1, 1, 1, 0, 0)) || !near.Better(nil, of(1, 1, 1, 0, 0), of(2, 1, 1, 0, 9)) {
		t.Error("without a filter")
	}
}

func TestUnion(t *testing.T) {
	a := []api.Desc{of(5, 1, 3, 1, 1), of(2, 1, 3, 1, 1), of(2, 1, 3, 2, 2), of(9, 1, 0, 0, 0), of(7, 0, 0, 0, 0)}
	b := []api.Desc{of(5, 1, 2, 3, 3), of(2, 1, 3, 3, 3), of(255, 1, 0, 0, 0), of(5, 1, 2, 4, 4)}
	c := []api.Desc{of(5, 2, 200, 5, 5), of(0, 1, 1, 1, 1), of(2, 1, 4, 5, 5)}
	if got := near.Union(9, a, b, c); !same(got, []api.Desc{of(0, 1, 1, 1, 1), of(2, 1, 3, 1, 1), of(5, 2, 200, 5, 5), of(255, 1, 0, 0, 0)}) {
		t.Error(got)
	}
	if got := near.Union(8, a, b); !same(got, []api.Desc{of(2, 1, 3, 1, 1), of(5, 1, 2, 3, 3), of(9, 1, 0, 0, 0), of(255, 1, 0, 0, 0)}) {
		t.Error(got)
	}
	if len(near.Union(1)) != 0 || len(near.Union(1, nil, nil)) != 0 || len(near.Union(5, []api.Desc{of(5, 1, 1, 1, 1)})) != 0 {
		t.Error("nobody")
	}
	var many []api.Desc
	for i := range 256 {
		many = append(many, of(uint8(255-i), 1, 0, 0, 0))
	}
	if got := near.Union(77, many[:100], many[100:]); len(got) != 255 || !slices.IsSortedFunc(got, func(a, b api.Desc) int { return int(a.Node) - int(b.Node) }) {
		t.Error("all nodes", len(got))
	}
}

func TestChoose(t *testing.T) {
	a, b, c := of(1, 1, 0, 5, 20), of(2, 1, 0, 0, 2), of(3, 1, 0, 30, 40)
	l := []api.Desc{c, b, a}
	for room, want := range map[int][]api.Desc{1: {a}, 2: {a, b}, 9: {a, b}, 0: nil, -1: nil, math.MinInt: nil, math.MaxInt: {a, b}} {
		if got := near.Choose(own, 9, room, l); !same(got, want) {
			t.Error(room, got)
		}
	}
	if got := near.Choose(nil, 9, 9, l); len(got) != 0 {
		t.Error("nothing in common", got)
	}
	if got := near.Choose(own, 9, 9); len(got) != 0 {
		t.Error("no lists", got)
	}
	if got := near.Choose(own, 1, 9, l, []api.Desc{of(2, 2, 9, 50, 60)}); len(got) != 0 {
		t.Error("the newest one has nothing in common", got)
	}
	if got := near.Choose(own, 9, 1, []api.Desc{of(7, 1, 3, 0, 2)}, []api.Desc{of(8, 1, 2, 3, 5)}, []api.Desc{of(6, 1, 2, 7, 9)}); !same(got, []api.Desc{of(6, 1, 2, 7, 9)}) {
		t.Error(got)
	}
	if got := near.Choose(own, 9, 2, []api.Desc{of(3, 1, 0, 0, 1), of(7, 1, 0, 0, 9), of(5, 1, 0, 0, 3)}); !same(got, []api.Desc{of(5, 1, 0, 0, 3), of(7, 1, 0, 0, 9)}) {
		t.Error("by nodes", got)
	}
}

func random(r *rand.Rand) []api.Desc {
	var l []api.Desc
	for range r.Intn(8) {
		from := int32(r.Intn(14))
		l = append(l, of(uint8(r.Intn(9)), uint16(r.Intn(3)), uint8(r.Intn(3)), from, from+int32(r.Intn(4))))
	}
	return l
}

func TestAtRandom(t *testing.T) {
	r := rand.New(rand.NewSource(1))
	for range 4000 {
		lists := [][]api.Desc{random(r), random(r), random(r)}[:r.Intn(4)]
		self, room := uint8(r.Intn(9)), r.Intn(6)
		all := slices.Concat(lists...)
		var union []api.Desc
		for node := range uint8(9) {
			best := -1
			for i, d := range all {
				if d.Node == node && node != self && d.Inc > 0 && (best < 0 || d.Inc > all[best].Inc || d.Inc == all[best].Inc && d.Age < all[best].Age) {
					best = i
				}
			}
			if best >= 0 {
				union = append(union, all[best])
			}
		}
		if got := near.Union(self, lists...); !same(got, union) {
			t.Fatal("Union", lists, got)
		}
		got := near.Choose(own, self, room, lists...)
		left := 0
		for _, d := range union {
			if score.Overlap(own, d.Filter) == 0 {
				if desc.Find(got, d.Node) >= 0 {
					t.Fatal("nothing in common", lists, got)
				}
				continue
			}
			left++
			better := 0
			for _, e := range union {
				if near.Better(own, e, d) {
					better++
				}
			}
			at := desc.Find(got, d.Node)
			if (at >= 0) != (better < room) || at >= 0 && !equal(got[at], d) {
				t.Fatal("not the best ones", lists, got, d)
			}
		}
		if len(got) != min(left, room) || !desc.Right(got, self, room) {
			t.Fatal("no view", got)
		}
		if again := near.Choose(own, self, room, got); !same(again, got) {
			t.Fatal("again", got, again)
		}
		if again := near.Choose(own, self, room, append([][]api.Desc{got}, lists...)...); !same(again, got) {
			t.Fatal("again, with the lists", got, again)
		}
		more := near.Choose(own, self, room+1, lists...)
		for _, d := range got {
			if desc.Find(more, d.Node) < 0 {
				t.Fatal("lost with more room", got, more)
			}
		}
	}
}

func TestMemory(t *testing.T) {
	whole := func() []api.Desc {
		return []api.Desc{of(2, 1, 1, 0, 9), of(1, 1, 5, 0, 9), of(7, 7, 7, 0, 9), of(7, 7, 7, 0, 9)}
	}
	all := whole()
	l := all[:2]
	for _, got := range [][]api.Desc{near.Union(9, l), near.Union(9, l, nil), near.Choose(own, 9, 5, l), near.Choose(own, 9, 1, l)} {
		for i := range got {
			got[i].Node = 99
			got[i].Filter[0].From = 99
		}
		_ = append(got, of(98, 1, 1, 1, 1))
		if !same(all, whole()) || own[0].From != 0 {
			t.Fatal("shared", all)
		}
	}
}
