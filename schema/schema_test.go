package schema_test

import (
	"bytes"
	"math"
	"math/rand"
	"slices"
	"testing"

	"grapevine/api"
	"grapevine/schema"
)

var two = api.Schema{{From: 0, To: 9}, {From: -5, To: 5}}

func TestRight(t *testing.T) {
	one := api.Span{From: 3, To: 3}
	for _, c := range []struct {
		s    api.Schema
		want bool
	}{
		{nil, false},
		{api.Schema{}, false},
		{two, true},
		{api.Schema{one}, true},
		{api.Schema{one, one, one}, true},
		{api.Schema{one, one, one, one}, true},
		{api.Schema{one, one, one, one, one}, false},
		{api.Schema{{From: 4, To: 3}}, false},
		{api.Schema{one, one, one, {From: 1, To: 0}}, false},
		{api.Schema{{From: 1, To: 0}, one}, false},
		{api.Schema{{From: math.MinInt32, To: math.MaxInt32}}, true},
		{api.Schema{{From: math.MaxInt32, To: math.MinInt32}}, false},
	} {
		if got := schema.Right(c.s); got != c.want {
			t.Errorf("Right(%v) = %v", c.s, got)
		}
	}
}

func TestFits(t *testing.T) {
	for _, c := range []struct {
		vals []int32
		want bool
	}{
		{[]int32{3, 5}, true}, {[]int32{3, 6}, false}, {[]int32{3}, false}, {nil, false}, {[]int32{3, 5, 0}, false},
		{[]int32{0, -5}, true}, {[]int32{9, 5}, true}, {[]int32{-1, 0}, false}, {[]int32{10, 0}, false},
		{[]int32{0, -6}, false}, {[]int32{math.MinInt32, 0}, false}, {[]int32{0, math.MaxInt32}, false},
	} {
		if got := schema.Fits(two, c.vals); got != c.want {
			t.Errorf("Fits(%v) = %v", c.vals, got)
		}
	}
}

func TestBring(t *testing.T) {
	for _, c := range []struct{ vals, want []int32 }{
		{[]int32{12, -9}, []int32{9, -5}}, {[]int32{4}, []int32{4, 0}}, {nil, []int32{0, 0}},
		{[]int32{-1, 6, 7}, []int32{0, 5}}, {[]int32{9, 5}, []int32{9, 5}}, {[]int32{0, -5, 1, 1, 1}, []int32{0, -5}},
		{[]int32{math.MaxInt32, math.MinInt32}, []int32{9, -5}},
	} {
		if got := schema.Bring(two, c.vals); !slices.Equal(got, c.want) {
			t.Errorf("Bring(%v) = %v", c.vals, got)
		}
	}
	high := api.Schema{{From: 7, To: 8}, {From: -8, To: -7}}
	if got := schema.Bring(high, nil); !slices.Equal(got, []int32{7, -7}) {
		t.Error("a missing value counts as 0, and is brought in", got)
	}
}

func TestBringFits(t *testing.T) {
	r := rand.New(rand.NewSource(1))
	for range 2000 {
		s := make(api.Schema, 1+r.Intn(4))
		for i := range s {
			a, b := int32(r.Intn(21)-10), int32(r.Intn(21)-10)
			s[i] = api.Span{From: min(a, b), To: max(a, b)}
		}
		vals := make([]int32, r.Intn(6))
		for i := range vals {
			vals[i] = int32(r.Intn(31) - 15)
		}
		got := schema.Bring(s, vals)
		if !schema.Fits(s, got) || schema.Fits(s, vals) != slices.Equal(got, vals) {
			t.Fatal(s, vals, got)
		}
	}
}

func event(node uint8, inc uint16, seq uint32, data int, vals ...int32) api.Event {
	return api.Event{ID: api.ID{Node: node, Inc: inc, Seq: seq}, Vals: vals, Data: make([]byte, data)}
}

func TestEvent(t *testing.T) {
	for i, c := range []struct {
		e    api.Event
		want bool
	}{
		{event(0, 1, 1, 0, 3, 5), true},
		{event(11, math.MaxUint16, math.MaxUint32, 64, 3, 5), true},
		{event(0, 1, 1, 65, 3, 5), false},
		{event(12, 1, 1, 0, 3, 5), false},
		{event(255, 1, 1, 0, 3, 5), false},
		{event(0, 0, 1, 0, 3, 5), false},
		{event(0, 1, 0, 0, 3, 5), false},
		{event(0, 1, 1, 0, 3, 6), false},
		{event(0, 1, 1, 0, 3), false},
		{event(0, 1, 1, 0), false},
		{event(0, 1, 1, 0, 3, 5, 5), false},
	} {
		if got := schema.Event(two, c.e); got != c.want {
			t.Error(i, c.e, got)
		}
	}
}

func TestSame(t *testing.T) {
	e := api.Event{ID: api.ID{Node: 1, Inc: 2, Seq: 3}, Vals: []int32{4, 5}, Data: []byte("ab")}
	if !schema.Same(e, schema.Copy(e)) || !schema.Same(api.Event{}, api.Event{Vals: []int32{}, Data: []byte{}}) {
		t.Error("the same")
	}
	for i, change := range []func(*api.Event){
		func(e *api.Event) { e.ID.Node++ },
		func(e *api.Event) { e.ID.Inc++ },
		func(e *api.Event) { e.ID.Seq++ },
		func(e *api.Event) { e.Vals[0]++ },
		func(e *api.Event) { e.Vals[1]++ },
		func(e *api.Event) { e.Vals = e.Vals[:1] },
		func(e *api.Event) { e.Vals = append(e.Vals, 0) },
		func(e *api.Event) { e.Data[1]++ },
		func(e *api.Event) { e.Data = nil },
		func(e *api.Event) { e.Data = append(e.Data, 0) },
	} {
		f := schema.Copy(e)
		change(&f)
		if schema.Same(e, f) || schema.Same(f, e) {
			t.Error(i, f)
		}
	}
}

func TestCopy(t *testing.T) {
	vals, data := []int32{4, 5, 77}, []byte{1, 2, 77}
	e := api.Event{ID: api.ID{Node: 1, Inc: 2, Seq: 3}, Vals: vals[:2], Data: data[:2]}
	got := schema.Copy(e)
	if got.ID != e.ID || !slices.Equal(got.Vals, e.Vals) || !bytes.Equal(got.Data, e.Data) {
		t.Error(got)
	}
	got.Vals[0], got.Data[0] = 99, 99
	_, _ = append(got.Vals, 1), append(got.Data, 1)
	if !slices.Equal(vals, []int32{4, 5, 77}) || !bytes.Equal(data, []byte{1, 2, 77}) {
		t.Error("shared", vals, data)
	}
	fit := []int32{4, 5}
	brought := schema.Bring(two, fit)
	brought[0] = 99
	if fit[0] != 4 {
		t.Error("Bring shares")
	}
}

// What is no right schema, or event, brings nothing down.
func TestAnything(t *testing.T) {
	bad := api.Schema{{From: 5, To: -5}, {}, {}, {}, {}, {}}
	for _, s := range []api.Schema{nil, bad} {
		schema.Fits(s, nil)
		schema.Fits(s, []int32{1, 2, 3, 4, 5, 6})
		schema.Bring(s, nil)
		schema.Bring(s, []int32{1, 2, 3, 4, 5, 6, 7})
		schema.Event(s, api.Event{})
	}
}
