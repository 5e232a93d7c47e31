package outbox_test

import (
	"math"
	"math/rand"
	"reflect"
	"testing"

	"grapevine/api"
	"grapevine/outbox"
)

// of is a message with something in each of its lists, which tells it from others.
func of(n int) api.Message {
	k := uint8(n)
	return api.Message{
		Kind: k, From: k + 1, Inc: uint16(n), To: k + 2, Hops: k + 3, Origin: api.Mark{Node: k, Inc: 1, Seq: uint32(n)},
		List:  []api.Desc{{Node: k, Inc: 1, Age: k, Filter: api.Filter{{From: int32(n), To: 7}}}, {Node: k + 1}},
		Table: []api.Member{{Inc: uint16(n), State: 1, Quiet: 2}},
		Event: api.Event{ID: api.ID{Node: k, Inc: 1, Seq: 1}, Vals: []int32{int32(n)}, Data: []byte{k, 5}},
		Marks: []api.Mark{{Node: k}}, IDs: []api.ID{{Node: k, Inc: 1, Seq: 1}},
	}
}

// bare is a message without lists.
func bare(n int) api.Message { return api.Message{Kind: api.KindLeave, Inc: uint16(n)} }

func same(a, b api.Outbox) bool {
	return a.Room == b.Room && a.Lost == b.Lost && len(a.L) == len(b.L) && (len(a.L) == 0 || reflect.DeepEqual(a.L, b.L))
}

func TestExamples(t *testing.T) {
	o := api.Outbox{Room: 2}
	for n := range 3 {
		o = outbox.Put(o, of(n))
	}
	if !same(o, api.Outbox{Room: 2, L: []api.Message{of(0), of(1)}, Lost: 1}) {
		t.Error(o)
	}
	m, o, ok := outbox.Take(o)
	if !ok || !reflect.DeepEqual(m, of(0)) || !same(o, api.Outbox{Room: 2, L: []api.Message{of(1)}, Lost: 1}) {
		t.Error(m, o, ok)
	}
	m, o, ok = outbox.Take(o)
	if !ok || !reflect.DeepEqual(m, of(1)) || !same(o, api.Outbox{Room: 2, Lost: 1}) {
		t.Error(m, o, ok)
	}
	m, o, ok = outbox.Take(o)
	if ok || !reflect.DeepEqual(m, api.Message{}) || !same(o, api.Outbox{Room: 2, Lost: 1}) {
		t.Error(m, o, ok)
	}
}

func TestRoom(t *testing.T) {
	for _, room := range []int{0, -1, math.MinInt} {
		if o := outbox.Put(api.Outbox{Room: room, Lost: 4}, of(1)); !same(o, api.Outbox{Room: room, Lost: 5}) {
			t.Error(o)
		}
	}
	if o := outbox.Put(api.Outbox{Lost: math.MaxInt}, of(1)); !same(o, api.Outbox{Lost: math.MinInt}) {
		t.Error("it wraps", o)
	}
	if o := outbox.Put(api.Outbox{Room: math.MaxInt, Lost: 3}, bare(1)); !same(o, api.Outbox{Room: math.MaxInt, L: []api.Message{bare(1)}, Lost: 3}) {
		t.Error(o)
	}
	// more than there is room for, as somebody else made it
	over := api.Outbox{Room: 1, L: []api.Message{bare(1), bare(2)}}
	if o := outbox.Put(over, bare(3)); !same(o, api.Outbox{Room: 1, L: over.L, Lost: 1}) {
		t.Error(o)
	}
}

// Each one that was put is in the outbox, was taken, or is counted as lost.
func TestAtRandom(t *testing.T) {
	r := rand.New(rand.NewSource(1))
	for range 200 {
		o := api.Outbox{Room: r.Intn(5)}
		var want []api.Message
		lost := 0
		for n := range 30 {
			if r.Intn(3) == 0 {
				m, next, ok := outbox.Take(o)
				if ok != (len(want) > 0) || ok && !reflect.DeepEqual(m, want[0]) {
					t.Fatal(m, ok)
				}
				if ok {
					want = want[1:]
				}
				o = next
			} else {
				if len(want) < o.Room {
					want = append(want, of(n))
				} else {
					lost++
				}
				o = outbox.Put(o, of(n))
			}
			if !same(o, api.Outbox{Room: o.Room, L: want, Lost: lost}) {
				t.Fatal(o, want, lost)
			}
		}
	}
}

// spoil changes all that the lists of a message hold, and what lies behind them.
func spoil(m *api.Message) {
	m.List[0].Filter[0].From = 99
	m.List[1].Node = 99
	m.Table[0].Inc = 99
	m.Event.Vals[0], m.Event.Data[0] = 99, 99
	m.Marks[0].Node, m.IDs[0].Node = 99, 99
	_ = append(m.List[0].Filter, api.Span{From: 1})
	_, _, _, _, _, _ = append(m.List, api.Desc{}), append(m.Table, api.Member{}), append(m.Event.Vals, 1), append(m.Event.Data, 1), append(m.Marks, api.Mark{}), append(m.IDs, api.ID{})
}

func TestMemory(t *testing.T) {
	all := []api.Message{of(0), of(1), of(7), of(7)}
	m := of(2)
	for _, room := range []int{2, 5} {
		o := api.Outbox{Room: room, L: all[:2]}
		put := outbox.Put(o, m)
		first, rest, _ := outbox.Take(o)
		spoil(&first)
		for i := range put.L {
			spoil(&put.L[i])
			put.L[i].Kind = 99
		}
		spoil(&rest.L[0])
		_, _ = append(put.L, of(9)), append(rest.L, of(9))
		if !reflect.DeepEqual(all, []api.Message{of(0), of(1), of(7), of(7)}) || !reflect.DeepEqual(m, of(2)) {
			t.Fatal("shared", all, m)
		}
	}
}
