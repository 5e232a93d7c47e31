package desc_test

import (
	"math"
	"math/rand"
	"slices"
	"testing"

	"grapevine/api"
	"grapevine/desc"
)

// of makes a descriptor with a filter that tells it from others.
func of(node uint8, inc uint16, age uint8) api.Desc {
	return api.Desc{Node: node, Inc: inc, Age: age, Filter: api.Filter{{From: int32(node), To: int32(inc)}}}
}

func same(a, b []api.Desc) bool { return slices.EqualFunc(a, b, equal) }

func equal(a, b api.Desc) bool {
	return a.Node == b.Node && a.Inc == b.Inc && a.Age == b.Age && slices.Equal(a.Filter, b.Filter)
}

func TestSame(t *testing.T) {
	d := of(1, 2, 3)
	if !desc.Same(d, of(1, 2, 3)) || !desc.Same(api.Desc{}, api.Desc{Filter: api.Filter{}}) {
		t.Error("the same")
	}
	for i, e := range []api.Desc{of(2, 2, 3), of(1, 3, 3), of(1, 2, 4), {Node: 1, Inc: 2, Age: 3}, {Node: 1, Inc: 2, Age: 3, Filter: append(of(1, 2, 3).Filter, api.Span{})}, {Node: 1, Inc: 2, Age: 3, Filter: api.Filter{{From: 1, To: 3}}}, {Node: 1, Inc: 2, Age: 3, Filter: api.Filter{{From: 2, To: 2}}}} {
		if desc.Same(d, e) || desc.Same(e, d) {
			t.Error(i, e)
		}
	}
	e := of(1, 3, 3)
	e.Filter = d.Filter
	if desc.Same(d, e) {
		t.Error("another incarnation with the same filter")
	}
}

func TestRight(t *testing.T) {
	for i, c := range []struct {
		l    []api.Desc
		self uint8
		room int
		want bool
	}{
		{nil, 0, 0, true}, {nil, 0, 9, true}, {nil, 0, -1, false}, {nil, 0, math.MinInt, false},
		{[]api.Desc{of(1, 1, 0), of(3, 1, 0)}, 0, 2, true}, {[]api.Desc{of(1, 1, 0), of(3, 1, 0)}, 0, 1, false}, {[]api.Desc{of(1, 1, 0), of(3, 1, 0)}, 0, math.MaxInt, true},
		{[]api.Desc{of(1, 1, 0), of(3, 1, 0)}, 1, 2, false}, {[]api.Desc{of(1, 1, 0), of(3, 1, 0)}, 3, 2, false}, {[]api.Desc{of(3, 1, 0), of(1, 1, 0)}, 0, 2, false},
		{[]api.Desc{of(3, 1, 0), of(3, 1, 0)}, 0, 2, false}, {[]api.Desc{of(3, 1, 0), of(4, 0, 0)}, 0, 2, false}, {[]api.Desc{of(3, 0, 0)}, 0, 2, false}, {[]api.Desc{of(0, 1, 255), of(255, 65535, 0)}, 7, 2, true},
	} {
		if got := desc.Right(c.l, c.self, c.room); got != c.want {
			t.Error(i, got)
		}
	}
}

func TestExamples(t *testing.T) {
	l := []api.Desc{of(1, 1, 4), of(3, 1, 4)}
	if got, ok := desc.Put(l, of(2, 1, 0), 0, 2); ok || !same(got, l) {
		t.Error(got, ok)
	}
	if got, ok := desc.Put(l, of(3, 1, 2), 0, 2); !ok || !same(got, []api.Desc{of(1, 1, 4), of(3, 1, 2)}) {
		t.Error(got, ok)
	}
	if got, ok := desc.Put(l, of(3, 1, 4), 0, 2); ok || !same(got, l) {
		t.Error(got, ok)
	}
	if got, ok := desc.Put(l, of(0, 1, 4), 0, 9); ok || !same(got, l) {
		t.Error(got, ok)
	}
	if got := desc.Older(l); !same(got, []api.Desc{of(1, 1, 5), of(3, 1, 5)}) || desc.Oldest(got) != 0 {
		t.Error(got)
	}
	if got := desc.Older([]api.Desc{of(1, 1, 255), of(2, 1, 254), of(3, 1, 0)}); !same(got, []api.Desc{of(1, 1, 255), of(2, 1, 255), of(3, 1, 1)}) {
		t.Error(got)
	}
	if got := desc.Drop(l, 1); !same(got, l[1:]) {
		t.Error(got)
	}
	if got := desc.Drop(l, 2); !same(got, l) {
		t.Error(got)
	}
	if len(desc.Drop(nil, 2)) != 0 || len(desc.Older(nil)) != 0 || desc.Oldest(nil) != -1 || desc.Find(nil, 0) != -1 || len(desc.Copy(nil)) != 0 {
		t.Error("nothing")
	}
}

func TestPut(t *testing.T) {
	l := []api.Desc{of(2, 5, 4), of(6, 5, 4)}
	for i, c := range []struct {
		d    api.Desc
		room int
		want []api.Desc
		ok   bool
	}{
		{of(6, 6, 255), 2, []api.Desc{of(2, 5, 4), of(6, 6, 255)}, true},
		{of(6, 6, 255), 0, []api.Desc{of(2, 5, 4), of(6, 6, 255)}, true},
		{of(6, 4, 0), 9, l, false}, {of(6, 5, 5), 9, l, false}, {of(6, 0, 0), 9, l, false}, {of(7, 0, 0), 9, l, false},
		{of(1, 1, 0), 3, []api.Desc{of(1, 1, 0), of(2, 5, 4), of(6, 5, 4)}, true},
		{of(3, 1, 0), 3, []api.Desc{of(2, 5, 4), of(3, 1, 0), of(6, 5, 4)}, true},
		{of(255, 1, 0), 3, []api.Desc{of(2, 5, 4), of(6, 5, 4), of(255, 1, 0)}, true},
		{of(255, 1, 0), 2, l, false}, {of(9, 9, 0), 9, l, false},
	} {
		got, ok := desc.Put(l, c.d, 9, c.room)
		if ok != c.ok || !same(got, c.want) {
			t.Error(i, got, ok)
		}
	}
	if got, ok := desc.Put(nil, of(3, 1, 7), 9, 1); !ok || !same(got, []api.Desc{of(3, 1, 7)}) {
		t.Error(got, ok)
	}
	if got, ok := desc.Put(nil, of(3, 1, 7), 9, 0); ok || len(got) != 0 {
		t.Error(got, ok)
	}
}

func TestOldest(t *testing.T) {
	for _, c := range []struct {
		ages []uint8
		want int
	}{{[]uint8{0}, 0}, {[]uint8{1, 2, 3}, 2}, {[]uint8{1, 3, 3}, 1}, {[]uint8{0, 0, 0}, 0}, {[]uint8{255, 0, 255}, 0}} {
		var l []api.Desc
		for i, a := range c.ages {
			l = append(l, of(uint8(i), 1, a))
		}
		if got := desc.Oldest(l); got != c.want {
			t.Error(c, got)
		}
	}
}

// A view is compared with a map of what was put.
func TestAtRandom(t *testing.T) {
	r := rand.New(rand.NewSource(1))
	for range 300 {
		self, room := uint8(r.Intn(12)), r.Intn(6)
		var l []api.Desc
		want := map[uint8]api.Desc{}
		for range 60 {
			d := of(uint8(r.Intn(12)), uint16(r.Intn(4)), uint8(r.Intn(4)))
			if r.Intn(4) == 0 {
				l = desc.Drop(l, d.Node)
				delete(want, d.Node)
			} else {
				old, there := want[d.Node]
				newer := !there && len(want) < room || there && (d.Inc > old.Inc || d.Inc == old.Inc && d.Age < old.Age)
				put := d.Node != self && d.Inc > 0 && newer
				got, ok := desc.Put(l, d, self, room)
				if ok != put {
					t.Fatal(l, d, ok)
				}
				if put {
					want[d.Node] = d
				}
				if again, twice := desc.Put(got, d, self, room); twice || !same(again, got) {
					t.Fatal("again", got, d)
				}
				l = got
			}
			if len(l) != len(want) || !desc.Right(l, self, room) {
				t.Fatal(l, want)
			}
			for node := range uint8(12) {
				at := desc.Find(l, node)
				if e, there := want[node]; there != (at >= 0) || there && !equal(l[at], e) || !there && at != -1 {
					t.Fatal("Find", l, node, at)
				}
			}
		}
	}
}

func TestMemory(t *testing.T) {
	whole := func() []api.Desc { return []api.Desc{of(1, 1, 4), of(3, 1, 4), of(77, 7, 7), of(77, 7, 7)} }
	all := whole()
	l, d := all[:2], of(2, 1, 1)
	results := [][]api.Desc{desc.Copy(l), desc.Drop(l, 1), desc.Drop(l, 5), desc.Older(l)}
	newer := of(1, 2, 0)
	for _, x := range []api.Desc{d, newer, of(1, 0, 0), of(4, 1, 1)} {
		got, _ := desc.Put(l, x, 9, 3)
		full, _ := desc.Put(l, x, 9, 2)
		results = append(results, got, full)
	}
	put, _ := desc.Put(l, d, 9, 3)
	for _, got := range append(results, put) {
		for i := range got {
			got[i].Node, got[i].Age = 99, 99
			got[i].Filter[0].From = 99
			_ = append(got[i].Filter, api.Span{From: 1})
		}
		_ = append(got, of(98, 9, 9))
		if !same(all, whole()) || !equal(d, of(2, 1, 1)) || !equal(newer, of(1, 2, 0)) {
			t.Fatal("shared", all, d)
		}
	}
}

// Lists that are no views bring nothing down.
func TestAnything(t *testing.T) {
	l := []api.Desc{of(5, 0, 0), of(1, 1, 1), of(5, 1, 1), of(0, 0, 0)}
	for node := range uint8(8) {
		for _, room := range []int{math.MinInt, -1, 0, 2, 9, math.MaxInt} {
			desc.Put(l, of(node, 1, 0), 1, room)
			desc.Right(l, node, room)
		}
		desc.Find(l, node)
		desc.Drop(l, node)
	}
}
