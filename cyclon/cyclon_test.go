package cyclon_test

import (
	"math"
	"math/rand"
	"slices"
	"testing"

	"grapevine/api"
	"grapevine/cyclon"
	"grapevine/desc"
)

func of(node uint8, inc uint16, age uint8) api.Desc {
	return api.Desc{Node: node, Inc: inc, Age: age, Filter: api.Filter{{From: int32(node), To: int32(inc)}}}
}

func same(a, b []api.Desc) bool {
	return slices.EqualFunc(a, b, func(a, b api.Desc) bool {
		return a.Node == b.Node && a.Inc == b.Inc && a.Age == b.Age && slices.Equal(a.Filter, b.Filter)
	})
}

func nodes(l []api.Desc) []uint8 {
	var out []uint8
	for _, d := range l {
		out = append(out, d.Node)
	}
	return out
}

var view = []api.Desc{of(1, 1, 1), of(2, 1, 5), of(3, 1, 0)}

func TestAsk(t *testing.T) {
	node, sent, ok := cyclon.Ask(view, of(9, 4, 77), 2, []uint32{3})
	if node != 2 || !ok || !same(sent, []api.Desc{of(9, 4, 0), of(3, 1, 0)}) {
		t.Error(node, sent, ok)
	}
	for i, c := range []struct {
		l     []api.Desc
		many  int
		draws []uint32
		node  uint8
		sent  []uint8
	}{
		{view, 1, []uint32{3}, 2, []uint8{9}},
		{view, 3, []uint32{0, 0}, 2, []uint8{9, 1, 3}},
		{view, 3, []uint32{1, 5}, 2, []uint8{9, 3, 1}},
		{view, 3, []uint32{1}, 2, []uint8{9, 3}},
		{view, 9, []uint32{1, 1, 1, 1}, 2, []uint8{9, 3, 1}},
		{view, math.MaxInt, nil, 2, []uint8{9}},
		{view[:1], 2, []uint32{0, 0}, 1, []uint8{9}},
		{[]api.Desc{of(1, 1, 7), of(2, 1, 7), of(3, 1, 7)}, 3, []uint32{0, 0}, 1, []uint8{9, 2, 3}},
	} {
		node, sent, ok := cyclon.Ask(c.l, of(9, 4, 0), c.many, c.draws)
		if node != c.node || !ok || !slices.Equal(nodes(sent), c.sent) {
			t.Error(i, node, sent, ok)
		}
	}
	for _, c := range []struct {
		l    []api.Desc
		many int
	}{{nil, 2}, {view, 0}, {view, -1}, {view, math.MinInt}} {
		if node, sent, ok := cyclon.Ask(c.l, of(9, 4, 0), c.many, []uint32{1}); node != 0 || len(sent) != 0 || ok {
			t.Error(c, node, sent, ok)
		}
	}
}

func TestPick(t *testing.T) {
	for i, c := range []struct {
		many  int
		not   uint8
		draws []uint32
		want  []uint8
	}{
		{2, 99, []uint32{4, 3}, []uint8{2, 3}}, {2, 99, []uint32{math.MaxUint32, math.MaxUint32}, []uint8{1, 3}}, {3, 2, []uint32{3, 0, 0}, []uint8{3, 1}},
		{3, 99, []uint32{2, 1, 0, 7}, []uint8{3, 2, 1}}, {3, 99, []uint32{2}, []uint8{3}}, {3, 99, nil, nil}, {0, 99, []uint32{1}, nil}, {-5, 99, []uint32{1}, nil}, {math.MinInt, 99, []uint32{1}, nil},
		{1, 1, []uint32{0}, []uint8{2}}, {math.MaxInt, 1, []uint32{0, 0, 0}, []uint8{2, 3}},
	} {
		if got := nodes(cyclon.Pick(view, c.many, c.not, c.draws)); !slices.Equal(got, c.want) {
			t.Error(i, got)
		}
	}
	if got := cyclon.Pick(view, 1, 9, []uint32{1}); !same(got, view[1:2]) {
		t.Error("as it is", got)
	}
	if got := cyclon.Pick(nil, 3, 9, []uint32{1, 2}); len(got) != 0 {
		t.Error(got)
	}
}

func TestMerge(t *testing.T) {
	for i, c := range []struct {
		l, got, sent []api.Desc
		room         int
		want         []api.Desc
	}{
		{view, []api.Desc{of(4, 1, 0), of(5, 1, 0)}, []api.Desc{of(9, 1, 0), of(3, 1, 0)}, 3, []api.Desc{view[0], view[1], of(4, 1, 0)}},
		{view, []api.Desc{of(4, 1, 0), of(5, 1, 0)}, []api.Desc{of(3, 1, 0), of(1, 1, 0)}, 3, []api.Desc{view[1], of(4, 1, 0), of(5, 1, 0)}},
		{view, []api.Desc{of(4, 1, 0), of(5, 1, 0)}, []api.Desc{of(3, 1, 0), of(3, 1, 0)}, 3, []api.Desc{view[0], view[1], of(4, 1, 0)}},
		{view, []api.Desc{of(4, 1, 0), of(3, 1, 9)}, []api.Desc{of(3, 1, 0)}, 3, view}, // 3 was received, so it is kept
		{view, []api.Desc{of(4, 1, 0), of(3, 0, 0)}, []api.Desc{of(3, 1, 0), of(1, 1, 1)}, 3, []api.Desc{view[1], view[2], of(4, 1, 0)}},
		{view, []api.Desc{of(4, 1, 0)}, nil, 3, view},
		{view, []api.Desc{of(4, 1, 0)}, []api.Desc{of(7, 1, 1)}, 3, view},
		{view, []api.Desc{of(4, 1, 0)}, nil, 4, append(slices.Clone(view), of(4, 1, 0))},
		{view, []api.Desc{of(4, 1, 0), of(5, 1, 0)}, []api.Desc{of(2, 1, 0)}, 4, []api.Desc{view[0], view[2], of(4, 1, 0), of(5, 1, 0)}},
		{view, []api.Desc{of(9, 1, 0), of(4, 0, 0)}, []api.Desc{of(1, 1, 0), of(2, 1, 0)}, 3, view},
		{view, []api.Desc{of(2, 2, 9), of(3, 1, 1)}, []api.Desc{of(1, 1, 0)}, 3, []api.Desc{view[0], of(2, 2, 9), view[2]}},
		{view, []api.Desc{of(4, 1, 3), of(4, 1, 2), of(4, 2, 9)}, []api.Desc{of(1, 1, 0)}, 3, []api.Desc{view[1], view[2], of(4, 2, 9)}},
		{nil, []api.Desc{of(4, 1, 3)}, []api.Desc{of(1, 1, 0)}, 0, nil},
		{nil, []api.Desc{of(4, 1, 3)}, nil, 1, []api.Desc{of(4, 1, 3)}},
		{view, nil, view, 3, view},
	} {
		if got := cyclon.Merge(c.l, c.got, c.sent, 9, c.room); !same(got, c.want) {
			t.Error(i, got)
		}
	}
}

// merged is the chapter's wording, with what was dropped kept as a list of positions.
func merged(l, got, sent []api.Desc, self uint8, room int) []api.Desc {
	list := slices.Clone(l)
	dropped := map[int]bool{}
	in := func(l []api.Desc, node uint8) bool { return slices.Contains(nodes(l), node) }
	for _, d := range got {
		if next, ok := desc.Put(list, d, self, room); ok {
			list = next
			continue
		}
		if d.Node == self || d.Inc == 0 || in(list, d.Node) {
			continue
		}
		for i, s := range sent {
			if !dropped[i] && in(list, s.Node) && !in(got, s.Node) {
				dropped[i] = true
				list = desc.Drop(list, s.Node)
				list, _ = desc.Put(list, d, self, room)
				break
			}
		}
	}
	return list
}

func random(r *rand.Rand, many int) []api.Desc {
	var l []api.Desc
	for range r.Intn(many + 1) {
		l = append(l, of(uint8(r.Intn(10)), uint16(r.Intn(4)), uint8(r.Intn(4))))
	}
	return l
}

func TestAtRandom(t *testing.T) {
	r := rand.New(rand.NewSource(1))
	for range 5000 {
		self, room := uint8(r.Intn(10)), r.Intn(6)
		var l []api.Desc
		for _, d := range random(r, 9) {
			l, _ = desc.Put(l, d, self, room)
		}
		got, sent := random(r, 5), random(r, 5)
		if r.Intn(2) == 0 {
			sent = append(sent, cyclon.Pick(l, 3, self, []uint32{r.Uint32(), r.Uint32(), r.Uint32()})...)
		}
		out := cyclon.Merge(l, got, sent, self, room)
		if !same(out, merged(l, got, sent, self, room)) {
			t.Fatal(l, got, sent, self, room, out)
		}
		if !desc.Right(out, self, room) {
			t.Fatal("no view", out)
		}
		for _, d := range l {
			if desc.Find(out, d.Node) < 0 && !slices.Contains(nodes(sent), d.Node) {
				t.Fatal("dropped, and was not sent", l, sent, out)
			}
		}
		for _, d := range out {
			if !slices.Contains(nodes(l), d.Node) && !slices.Contains(nodes(got), d.Node) {
				t.Fatal("of nobody", out)
			}
		}
		draws := []uint32{r.Uint32(), r.Uint32(), r.Uint32(), r.Uint32()}[:r.Intn(5)]
		many, not := r.Intn(5), uint8(r.Intn(10))
		left := slices.DeleteFunc(slices.Clone(l), func(d api.Desc) bool { return d.Node == not })
		var want []api.Desc
		for i := 0; i < many && i < len(draws) && len(left) > 0; i++ {
			at := int(draws[i]) % len(left)
			want = append(want, left[at])
			left = slices.Delete(left, at, at+1)
		}
		if picked := cyclon.Pick(l, many, not, draws); !same(picked, want) {
			t.Fatal(l, many, not, draws, picked)
		}
	}
}

func TestMemory(t *testing.T) {
	whole := func() []api.Desc { return []api.Desc{of(1, 1, 1), of(2, 1, 5), of(3, 1, 0), of(7, 7, 7), of(7, 7, 7)} }
	all, got, sent, self := whole(), []api.Desc{of(4, 1, 0)}, []api.Desc{of(3, 1, 0)}, of(9, 4, 7)
	l := all[:3]
	_, asked, _ := cyclon.Ask(l, self, 3, []uint32{0, 0})
	for _, out := range [][]api.Desc{asked, cyclon.Pick(l, 3, 9, []uint32{1, 1, 1}), cyclon.Merge(l, got, sent, 9, 3), cyclon.Merge(l, got, sent, 9, 4), cyclon.Merge(l, nil, nil, 9, 3)} {
		for i := range out {
			out[i].Node = 99
			out[i].Filter[0].From = 99
		}
		_ = append(out, of(98, 1, 1))
		if !same(all, whole()) || !same(got, []api.Desc{of(4, 1, 0)}) || !same(sent, []api.Desc{of(3, 1, 0)}) || !same([]api.Desc{self}, []api.Desc{of(9, 4, 7)}) {
			t.Fatal("shared")
		}
	}
}

// Lists that are no views bring nothing down.
func TestAnything(t *testing.T) {
	l := []api.Desc{of(5, 0, 0), of(1, 1, 1), of(5, 1, 1), of(0, 0, 0)}
	for _, n := range []int{math.MinInt, -1, 0, 1, 3, math.MaxInt} {
		cyclon.Pick(l, n, 1, []uint32{7, 7, 7, 7, 7, 7})
		cyclon.Ask(l, of(1, 1, 1), n, []uint32{7, 7, 7, 7, 7, 7})
		cyclon.Merge(l, l, l, 5, n)
		cyclon.Merge(l, append(slices.Clone(l), of(9, 1, 1), of(8, 1, 1)), l, 7, n)
	}
}
