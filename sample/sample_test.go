package sample_test

import (
	"math"
	"math/rand"
	"slices"
	"testing"

	"grapevine/api"
	"grapevine/desc"
	"grapevine/sample"
)

func of(node uint8, inc uint16, age uint8) api.Desc {
	return api.Desc{Node: node, Inc: inc, Age: age, Filter: api.Filter{{From: int32(node), To: int32(inc)}}}
}

func same(a, b []api.Desc) bool {
	return slices.EqualFunc(a, b, func(a, b api.Desc) bool {
		return a.Node == b.Node && a.Inc == b.Inc && a.Age == b.Age && slices.Equal(a.Filter, b.Filter)
	})
}

func is(w api.Wait, some bool, node, left uint8, sent []api.Desc) bool {
	return w.Some == some && w.Node == node && w.Left == left && same(w.Sent, sent)
}

var sent = []api.Desc{of(9, 1, 0), of(4, 2, 3)}

func TestWait(t *testing.T) {
	w := sample.Start(3, 2, sent)
	if !is(w, true, 3, 2, sent) {
		t.Error(w)
	}
	w, node, up := sample.Tick(w)
	if !is(w, true, 3, 1, sent) || node != 0 || up {
		t.Error(w, node, up)
	}
	if x, s, ok := sample.Answer(w, 4); !is(x, true, 3, 1, sent) || len(s) != 0 || ok {
		t.Error(x, s, ok)
	}
	if x, s, ok := sample.Answer(w, 3); !is(x, false, 0, 0, nil) || !same(s, sent) || !ok {
		t.Error(x, s, ok)
	}
	w, node, up = sample.Tick(w)
	if !is(w, false, 0, 0, nil) || node != 3 || !up {
		t.Error(w, node, up)
	}
	w, node, up = sample.Tick(w)
	if !is(w, false, 0, 0, nil) || node != 0 || up {
		t.Error(w, node, up)
	}
	for _, from := range []uint8{0, 3} {
		if x, s, ok := sample.Answer(w, from); !is(x, false, 0, 0, nil) || len(s) != 0 || ok {
			t.Error(x, s, ok)
		}
	}
	if w := sample.Start(0, 0, nil); !is(w, true, 0, 1, nil) {
		t.Error("0 counts as 1", w)
	}
	if x, s, ok := sample.Answer(sample.Start(0, 5, nil), 0); !is(x, false, 0, 0, nil) || len(s) != 0 || !ok {
		t.Error("node 0, nothing sent", x, s, ok)
	}
}

// A wait is given up after exactly as many ticks as it had.
func TestTicks(t *testing.T) {
	for left := range 256 {
		w := sample.Start(7, uint8(left), sent)
		for i := 1; i <= max(left, 1); i++ {
			if !is(w, true, 7, uint8(max(left, 1)-i+1), sent) {
				t.Fatal(left, i, w)
			}
			var node uint8
			var up bool
			w, node, up = sample.Tick(w)
			if up != (i == max(left, 1)) || up && node != 7 || !up && node != 0 {
				t.Fatal(left, i, node, up)
			}
		}
		if !is(w, false, 0, 0, nil) {
			t.Fatal(left, w)
		}
	}
}

func TestAdmit(t *testing.T) {
	l := []api.Desc{of(1, 2, 5), of(2, 2, 1)}
	for i, c := range []struct {
		l    []api.Desc
		d    api.Desc
		room int
		want []api.Desc
	}{
		{l, of(7, 1, 0), 2, []api.Desc{l[1], of(7, 1, 0)}},
		{l, of(7, 1, 9), 2, []api.Desc{l[1], of(7, 1, 9)}},
		{l, of(0, 1, 0), 2, []api.Desc{of(0, 1, 0), l[1]}},
		{l, of(7, 1, 0), 3, []api.Desc{l[0], l[1], of(7, 1, 0)}},
		{l, of(1, 3, 0), 2, []api.Desc{of(1, 3, 0), l[1]}},
		{l, of(1, 2, 4), 2, []api.Desc{of(1, 2, 4), l[1]}},
		{l, of(1, 2, 5), 2, l}, {l, of(2, 1, 0), 2, l}, {l, of(7, 0, 0), 2, l}, {l, of(9, 1, 0), 2, l}, {l, of(9, 1, 0), 5, l},
		{[]api.Desc{of(1, 2, 1), of(2, 2, 5)}, of(1, 2, 3), 2, []api.Desc{of(1, 2, 1), of(2, 2, 5)}}, {[]api.Desc{of(1, 2, 1), of(2, 2, 5)}, of(1, 1, 0), 2, []api.Desc{of(1, 2, 1), of(2, 2, 5)}},
		{nil, of(7, 1, 0), 0, nil}, {nil, of(7, 1, 0), 1, []api.Desc{of(7, 1, 0)}},
		{[]api.Desc{of(1, 1, 3), of(2, 1, 3)}, of(0, 1, 9), 2, []api.Desc{of(0, 1, 9), of(2, 1, 3)}},
	} {
		if got := sample.Admit(c.l, c.d, 9, c.room); !same(got, c.want) {
			t.Error(i, got)
		}
	}
}

func TestFill(t *testing.T) {
	l := []api.Desc{of(1, 2, 5), of(2, 2, 1)}
	for i, c := range []struct {
		l, got []api.Desc
		room   int
		want   []api.Desc
	}{
		{l, []api.Desc{of(7, 1, 0)}, 2, l},
		{l, []api.Desc{of(7, 1, 0), of(0, 1, 0)}, 3, []api.Desc{l[0], l[1], of(7, 1, 0)}},
		{l, []api.Desc{of(7, 0, 0), of(9, 1, 0), of(0, 1, 0)}, 3, []api.Desc{of(0, 1, 0), l[0], l[1]}},
		{l, []api.Desc{of(7, 1, 0), of(2, 3, 9), of(7, 1, 0), of(1, 1, 0)}, 2, []api.Desc{l[0], of(2, 3, 9)}},
		{l, nil, 2, l}, {nil, []api.Desc{of(7, 1, 0)}, 0, nil}, {nil, []api.Desc{of(7, 1, 0)}, 4, []api.Desc{of(7, 1, 0)}},
	} {
		if got := sample.Fill(c.l, c.got, 9, c.room); !same(got, c.want) {
			t.Error(i, got)
		}
	}
}

func TestAtRandom(t *testing.T) {
	r := rand.New(rand.NewSource(1))
	for range 4000 {
		self, room := uint8(r.Intn(8)), r.Intn(5)
		var l, got []api.Desc
		for range 10 {
			l, _ = desc.Put(l, of(uint8(r.Intn(8)), uint16(1+r.Intn(2)), uint8(r.Intn(4))), self, room)
			got = append(got, of(uint8(r.Intn(8)), uint16(r.Intn(3)), uint8(r.Intn(4))))
		}
		d := got[0]
		in := sample.Admit(l, d, self, room)
		if !desc.Right(in, self, room) || room > 0 && d.Inc > 0 && d.Node != self && desc.Find(in, d.Node) < 0 {
			t.Fatal("Admit", l, d, self, room, in)
		}
		if put, ok := desc.Put(l, d, self, room); ok && !same(in, put) {
			t.Fatal("Admit", l, d, self, room, in)
		}
		full := sample.Fill(l, got, self, room)
		want := l
		for _, d := range got {
			want, _ = desc.Put(want, d, self, room)
		}
		if !same(full, want) {
			t.Fatal("Fill", l, got, full)
		}
		for _, d := range l {
			if desc.Find(full, d.Node) < 0 {
				t.Fatal("dropped", l, full)
			}
		}
	}
}

func TestMemory(t *testing.T) {
	whole := func() []api.Desc { return []api.Desc{of(1, 1, 1), of(2, 1, 5), of(7, 7, 7), of(7, 7, 7)} }
	all, other := whole(), whole()
	l, d := all[:2], of(3, 1, 1)
	w := sample.Start(3, 9, l)
	ticked, _, _ := sample.Tick(w)
	stayed, _, _ := sample.Answer(w, 4)
	_, back, _ := sample.Answer(w, 3)
	for i, out := range [][]api.Desc{back, ticked.Sent, stayed.Sent, sample.Admit(l, d, 9, 2), sample.Admit(l, d, 9, 3), sample.Admit(l, l[0], 9, 3), sample.Fill(l, []api.Desc{d}, 9, 3), sample.Fill(l, nil, 9, 3), w.Sent} {
		for i := range out {
			out[i].Node = 99
			out[i].Filter[0].From = 99
		}
		_ = append(out, of(98, 1, 1))
		if !same(all, other) || !same([]api.Desc{d}, []api.Desc{of(3, 1, 1)}) || i < 8 && !same(w.Sent, other[:2]) {
			t.Fatal("shared", i)
		}
	}
}

// What is no wait, or no view, brings nothing down.
func TestAnything(t *testing.T) {
	for _, w := range []api.Wait{{Some: true}, {Left: 3, Node: 3}, {Some: true, Left: 0, Sent: sent}, {Sent: sent}} {
		sample.Tick(w)
		sample.Answer(w, 0)
	}
	l := []api.Desc{of(5, 0, 0), of(1, 1, 1), of(5, 1, 1), of(0, 0, 0)}
	for _, n := range []int{math.MinInt, -1, 0, 1, 3, math.MaxInt} {
		sample.Admit(l, of(3, 1, 1), 1, n)
		sample.Admit(nil, of(3, 1, 1), 1, n)
		sample.Fill(l, l, 1, n)
	}
}
