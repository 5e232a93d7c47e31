package buffer_test

import (
	"math/rand"
	"slices"
	"testing"

	"grapevine/api"
	"grapevine/buffer"
	"grapevine/ident"
)

func id(node uint8, inc uint16, seq uint32) api.ID {
	return api.ID{Node: node, Inc: inc, Seq: seq}
}

func of(node uint8, inc uint16, seq uint32) api.Event {
	return api.Event{ID: id(node, inc, seq), Vals: []int32{int32(seq), int32(node)}, Data: []byte{byte(inc), 7}}
}

func equal(a, b api.Event) bool {
	return a.ID == b.ID && slices.Equal(a.Vals, b.Vals) && slices.Equal(a.Data, b.Data)
}

func full(room int, l ...api.Event) api.Buffer { return api.Buffer{Room: room, Events: l} }

func same(a, b api.Buffer) bool {
	return a.Room == b.Room && slices.EqualFunc(a.Events, b.Events, equal)
}

func TestExamples(t *testing.T) {
	b, err := buffer.Put(full(2), of(1, 1, 1))
	b, also := buffer.Put(b, of(0, 1, 1))
	if err != api.OK || also != api.OK || !same(b, full(2, of(0, 1, 1), of(1, 1, 1))) || !slices.Equal(buffer.IDs(b), []api.ID{id(0, 1, 1), id(1, 1, 1)}) {
		t.Error(b, err, also)
	}
	if got, err := buffer.Put(b, of(2, 1, 1)); err != api.ErrFull || !same(got, b) {
		t.Error(got, err)
	}
	if got, err := buffer.Put(b, of(0, 1, 1)); err != api.ErrThere || !same(got, b) {
		t.Error("first ErrThere", got, err)
	}
	if got, x, err := buffer.Evict(b, 0, 1); err != api.OK || x != id(1, 1, 1) || !same(got, full(2, of(0, 1, 1))) {
		t.Error(got, x, err)
	}
	if got, x, err := buffer.Evict(b, 0, 2); err != api.OK || x != id(0, 1, 1) || !same(got, full(2, of(1, 1, 1))) {
		t.Error(got, x, err)
	}
	if e, err := buffer.Get(b, id(0, 1, 1)); err != api.OK || !equal(e, of(0, 1, 1)) {
		t.Error(e, err)
	}
	if e, err := buffer.Get(b, id(2, 1, 1)); err != api.ErrNone || !equal(e, api.Event{}) {
		t.Error(e, err)
	}
}

func TestRightSame(t *testing.T) {
	a, b := of(0, 1, 1), of(1, 1, 1)
	for i, c := range []struct {
		b    api.Buffer
		want bool
	}{
		{full(0), true}, {full(-1), false}, {full(2, a, b), true}, {full(1, a, b), false}, {full(3, a, b), true}, {full(2, b, a), false}, {full(2, a, a), false}, {full(0, a), false}, {full(1, api.Event{}), true},
	} {
		if got := buffer.Right(c.b); got != c.want {
			t.Error(i, got)
		}
	}
	e := of(0, 1, 1)
	for i, c := range []struct {
		a, b api.Buffer
		want bool
	}{
		{full(2, a, b), full(2, of(0, 1, 1), of(1, 1, 1)), true}, {full(2, a, b), full(3, a, b), false}, {full(2, a), full(2, a, b), false}, {full(2, a, b), full(2, a), false}, {full(2, a, b), full(2, b, a), false},
		{full(2, a), full(2, api.Event{ID: e.ID, Vals: e.Vals}), false}, {full(2, a), full(2, api.Event{ID: e.ID, Data: e.Data}), false}, {full(2, a), full(2, api.Event{Vals: e.Vals, Data: e.Data}), false},
		{full(2), api.Buffer{Room: 2, Events: []api.Event{}}, true}, {full(2, api.Event{}), full(2, api.Event{Vals: []int32{}, Data: []byte{}}), true}, {full(-1), full(-1), true}, {full(0, a, a), full(0, a, a), true},
	} {
		if got := buffer.Same(c.a, c.b); got != c.want {
			t.Error(i, got)
		}
	}
}

// Has, Get and IDs are about any buffers.
func TestAnyOrder(t *testing.T) {
	first, second := of(5, 1, 1), api.Event{ID: id(5, 1, 1), Data: []byte{99}}
	b := full(0, of(9, 1, 1), first, second, of(0, 1, 1))
	if e, err := buffer.Get(b, id(5, 1, 1)); err != api.OK || !equal(e, first) {
		t.Error("the first one", e, err)
	}
	if !buffer.Has(b, id(0, 1, 1)) || !buffer.Has(b, id(9, 1, 1)) || buffer.Has(b, id(9, 1, 2)) || buffer.Has(full(5), id(0, 0, 0)) {
		t.Error("Has")
	}
	if got := buffer.IDs(b); !slices.Equal(got, []api.ID{id(9, 1, 1), id(5, 1, 1), id(5, 1, 1), id(0, 1, 1)}) {
		t.Error(got)
	}
	if got := buffer.IDs(full(3)); len(got) != 0 {
		t.Error(got)
	}
}

func TestEvictRemove(t *testing.T) {
	b := full(4, of(0, 1, 1), of(0, 1, 2), of(0, 2, 1), of(3, 1, 1))
	for _, c := range []struct {
		node uint8
		inc  uint16
		want api.ID
	}{{0, 1, id(0, 2, 1)}, {0, 2, id(0, 1, 1)}, {3, 1, id(0, 1, 1)}, {9, 9, id(0, 1, 1)}, {1, 1, id(0, 1, 1)}} {
		got, x, err := buffer.Evict(b, c.node, c.inc)
		want := full(4, slices.DeleteFunc(slices.Clone(b.Events), func(e api.Event) bool { return e.ID == c.want })...)
		if x != c.want || err != api.OK || !same(got, want) {
			t.Error(c, got, x, err)
		}
	}
	for _, b := range []api.Buffer{full(2, of(0, 1, 1), of(0, 1, 2)), full(0), full(5)} {
		if got, x, err := buffer.Evict(b, 0, 1); err != api.ErrFull || x != (api.ID{}) || !same(got, b) {
			t.Error(got, x, err)
		}
	}
	if got, err := buffer.Remove(b, id(0, 1, 2)); err != api.OK || !same(got, full(4, of(0, 1, 1), of(0, 2, 1), of(3, 1, 1))) {
		t.Error(got, err)
	}
	if got, err := buffer.Remove(b, id(0, 1, 3)); err != api.ErrNone || !same(got, b) {
		t.Error(got, err)
	}
	if got, err := buffer.Remove(full(0), id(0, 1, 3)); err != api.ErrNone || !same(got, full(0)) {
		t.Error(got, err)
	}
}

func TestPut(t *testing.T) {
	if got, err := buffer.Put(full(0), of(0, 1, 1)); err != api.ErrFull || !same(got, full(0)) {
		t.Error(got, err)
	}
	b := full(4, of(1, 1, 2), of(1, 2, 1))
	for i, c := range []struct {
		e    api.Event
		want []api.Event
	}{
		{of(0, 9, 9), []api.Event{of(0, 9, 9), b.Events[0], b.Events[1]}}, {of(1, 1, 9), []api.Event{b.Events[0], of(1, 1, 9), b.Events[1]}}, {of(1, 2, 2), []api.Event{b.Events[0], b.Events[1], of(1, 2, 2)}}, {api.Event{}, []api.Event{{}, b.Events[0], b.Events[1]}},
	} {
		if got, err := buffer.Put(b, c.e); err != api.OK || !same(got, full(4, c.want...)) {
			t.Error(i, got, err)
		}
	}
}

// A buffer is compared with a map of its events.
func TestAtRandom(t *testing.T) {
	r := rand.New(rand.NewSource(1))
	for range 300 {
		b := full(r.Intn(6))
		want := map[api.ID]api.Event{}
		for range 50 {
			e := of(uint8(r.Intn(3)), uint16(r.Intn(3)), uint32(r.Intn(3)))
			e.Data = []byte{byte(r.Intn(256))}
			old := b
			var err api.Errno
			switch _, there := want[e.ID]; r.Intn(4) {
			case 0:
				var x api.ID
				b, x, err = buffer.Evict(b, e.ID.Node, e.ID.Inc)
				least, some := api.ID{}, false
				for y := range want {
					if (y.Node != e.ID.Node || y.Inc != e.ID.Inc) && (!some || ident.Less(y, least)) {
						least, some = y, true
					}
				}
				if some != (err == api.OK) || x != least || !some && err != api.ErrFull {
					t.Fatal("Evict", old, e.ID, x, err)
				}
				if some {
					delete(want, x)
				}
			case 1:
				b, err = buffer.Remove(b, e.ID)
				if there != (err == api.OK) || !there && err != api.ErrNone {
					t.Fatal("Remove", old, e.ID, err)
				}
				delete(want, e.ID)
			default:
				b, err = buffer.Put(b, e)
				switch {
				case there && err == api.ErrThere, !there && len(want) >= b.Room && err == api.ErrFull:
				case !there && len(want) < b.Room && err == api.OK:
					want[e.ID] = e
				default:
					t.Fatal("Put", old, e, err)
				}
			}
			if len(b.Events) != len(want) || b.Room != old.Room || !buffer.Right(b) || err != api.OK && !same(b, old) {
				t.Fatal(old, b, err)
			}
			for x, e := range want {
				if got, err := buffer.Get(b, x); err != api.OK || !equal(got, e) || !buffer.Has(b, x) {
					t.Fatal("Get", b, x, got, err)
				}
			}
		}
	}
}

func TestMemory(t *testing.T) {
	all := []api.Event{of(1, 1, 1), of(1, 1, 2), of(7, 7, 7), of(7, 7, 7)}
	b, e := full(2, all[:2]...), of(3, 1, 1)
	roomy := full(5, all[:2]...)
	results := []api.Buffer{}
	for _, c := range []api.Buffer{b, roomy} {
		put, _ := buffer.Put(c, e)
		twice, _ := buffer.Put(c, all[0])
		evicted, _, _ := buffer.Evict(c, 0, 0)
		kept, _, _ := buffer.Evict(c, 1, 1)
		removed, _ := buffer.Remove(c, id(1, 1, 1))
		missed, _ := buffer.Remove(c, id(9, 1, 1))
		got, _ := buffer.Get(c, id(1, 1, 1))
		results = append(results, put, twice, evicted, kept, removed, missed, full(1, got))
	}
	for i, r := range results {
		for j := range r.Events {
			r.Events[j].ID.Node = 99
			r.Events[j].Vals[0], r.Events[j].Data[0] = 99, 99
		}
		_ = append(r.Events, api.Event{})
		if !slices.EqualFunc(all, []api.Event{of(1, 1, 1), of(1, 1, 2), of(7, 7, 7), of(7, 7, 7)}, equal) || !equal(e, of(3, 1, 1)) {
			t.Fatal("shared", i)
		}
	}
}

// Buffers that are not right bring nothing down.
func TestAnything(t *testing.T) {
	for _, b := range []api.Buffer{full(-5), full(-5, of(1, 1, 1)), full(9, of(5, 1, 1), of(1, 1, 1), of(1, 1, 1)), full(1, of(5, 1, 1), of(1, 1, 1))} {
		buffer.Put(b, of(3, 1, 1))
		buffer.Put(b, of(1, 1, 1))
		buffer.Evict(b, 1, 1)
		buffer.Remove(b, id(1, 1, 1))
		buffer.Right(b)
	}
}
