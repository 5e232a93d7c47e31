package ident_test

import (
	"math"
	"math/rand"
	"slices"
	"testing"

	"grapevine/api"
	"grapevine/ident"
)

func id(node uint8, inc uint16, seq uint32) api.ID {
	return api.ID{Node: node, Inc: inc, Seq: seq}
}

func TestRight(t *testing.T) {
	for _, c := range []struct {
		x     api.ID
		nodes int
		last  uint32
		want  bool
	}{
		{id(1, 2, 3), 2, 3, true}, {id(1, 2, 3), 1, 3, false}, {id(1, 2, 3), 2, 2, false}, {id(1, 0, 3), 2, 3, false},
		{id(1, 2, 0), 2, 3, false}, {id(1, 2, 0), 2, 0, false}, {id(0, 1, 1), 1, 1, true}, {id(0, 1, 1), 0, 1, false}, {id(0, 1, 1), -1, 1, false},
		{id(255, 65535, math.MaxUint32), 256, math.MaxUint32, true}, {id(255, 1, 1), 255, 1, false}, {id(255, 1, 1), math.MaxInt, 1, true}, {id(0, 1, 1), math.MinInt, 1, false},
	} {
		if got := ident.Right(c.x, c.nodes, c.last); got != c.want {
			t.Error(c, got)
		}
	}
}

// all is every id of small numbers, in their order.
func all() []api.ID {
	var l []api.ID
	for node := range uint8(3) {
		for inc := range uint16(3) {
			for seq := range uint32(3) {
				l = append(l, id(node, inc, seq))
			}
		}
	}
	return append(l, id(2, 2, math.MaxUint32), id(2, 65535, 0), id(255, 0, 0))
}

func TestLess(t *testing.T) {
	l := all()
	for i, a := range l {
		for j, b := range l {
			if ident.Less(a, b) != (i < j) {
				t.Error(a, b)
			}
		}
	}
}

func TestNext(t *testing.T) {
	for _, c := range []struct {
		x    api.ID
		last uint32
		want api.ID
		err  api.Errno
	}{
		{id(1, 2, 3), 4, id(1, 2, 4), api.OK}, {id(1, 2, 3), 3, api.ID{}, api.ErrSpent}, {id(1, 2, 0), 4, id(1, 2, 1), api.OK},
		{id(1, 2, 5), 4, api.ID{}, api.ErrSpent}, {id(1, 2, 0), 0, api.ID{}, api.ErrSpent},
		{id(1, 2, math.MaxUint32), math.MaxUint32, api.ID{}, api.ErrSpent}, {id(1, 2, math.MaxUint32-1), math.MaxUint32, id(1, 2, math.MaxUint32), api.OK},
		{id(0, 0, 0), 1, id(0, 0, 1), api.OK},
	} {
		if got, err := ident.Next(c.x, c.last); got != c.want || err != c.err {
			t.Error(c, got, err)
		}
	}
}

func TestRising(t *testing.T) {
	if !ident.Rising(nil) || !ident.Rising([]api.ID{id(9, 9, 9)}) || !ident.Rising(all()) {
		t.Error("rising")
	}
	l := all()
	for i := range len(l) - 1 {
		m := slices.Clone(l)
		m[i], m[i+1] = m[i+1], m[i]
		if ident.Rising(m) {
			t.Error("not in order", i)
		}
		m[i] = m[i+1]
		if ident.Rising(m) {
			t.Error("twice", i)
		}
	}
}

func TestPutDrop(t *testing.T) {
	l := []api.ID{id(0, 1, 1), id(0, 1, 3)}
	put := ident.Put(l, id(0, 1, 2))
	if !slices.Equal(put, []api.ID{id(0, 1, 1), id(0, 1, 2), id(0, 1, 3)}) || !slices.Equal(ident.Put(put, id(0, 1, 2)), put) {
		t.Error(put)
	}
	if got := ident.Drop(put, id(0, 1, 3)); !slices.Equal(got, put[:2]) {
		t.Error(got)
	}
	if got := ident.Drop(put, id(0, 2, 3)); !slices.Equal(got, put) {
		t.Error(got)
	}
	if got := ident.Put(nil, id(5, 0, 0)); !slices.Equal(got, []api.ID{id(5, 0, 0)}) {
		t.Error(got)
	}
	if got := ident.Drop(nil, id(5, 0, 0)); len(got) != 0 {
		t.Error(got)
	}
	// lists in no order
	mixed := []api.ID{id(2, 1, 1), id(0, 1, 1), id(2, 1, 1), id(1, 1, 1)}
	if got := ident.Put(mixed, id(1, 2, 1)); !slices.Equal(got, []api.ID{id(1, 2, 1), id(2, 1, 1), id(0, 1, 1), id(2, 1, 1), id(1, 1, 1)}) {
		t.Error(got)
	}
	if got := ident.Put(mixed, id(1, 1, 1)); !slices.Equal(got, mixed) {
		t.Error("it is there, behind greater ones", got)
	}
	if got := ident.Put(mixed, id(3, 1, 1)); !slices.Equal(got, append(slices.Clone(mixed), id(3, 1, 1))) {
		t.Error(got)
	}
	if got := ident.Drop(mixed, id(2, 1, 1)); !slices.Equal(got, []api.ID{id(0, 1, 1), id(1, 1, 1)}) {
		t.Error("all of them", got)
	}
}

func TestConsequences(t *testing.T) {
	r := rand.New(rand.NewSource(1))
	ids := all()
	for range 300 {
		var l []api.ID
		for range 30 {
			x := ids[r.Intn(len(ids))]
			var want []api.ID
			if r.Intn(3) > 0 {
				want = append(slices.Clone(l), x)
				slices.SortFunc(want, func(a, b api.ID) int { return slices.Index(ids, a) - slices.Index(ids, b) })
				want = slices.Compact(want)
				l = ident.Put(l, x)
			} else {
				want = slices.DeleteFunc(slices.Clone(l), func(y api.ID) bool { return y == x })
				l = ident.Drop(l, x)
			}
			if !slices.Equal(l, want) || !ident.Rising(l) {
				t.Fatal(l, want)
			}
			for _, y := range ids {
				if ident.Has(l, y) != slices.Contains(l, y) {
					t.Fatal("Has", l, y)
				}
			}
		}
	}
}

func TestMemory(t *testing.T) {
	whole := []api.ID{id(0, 1, 1), id(0, 1, 3), id(7, 7, 7), id(7, 7, 7)}
	l := whole[:2]
	for _, got := range [][]api.ID{ident.Put(l, id(0, 1, 2)), ident.Put(l, id(0, 1, 1)), ident.Put(l, id(0, 0, 0)), ident.Put(l, id(9, 0, 0)), ident.Drop(l, id(0, 1, 1)), ident.Drop(l, id(3, 1, 1))} {
		for i := range got {
			got[i] = id(99, 9, 9)
		}
		_ = append(got, id(98, 9, 9))
		if !slices.Equal(whole, []api.ID{id(0, 1, 1), id(0, 1, 3), id(7, 7, 7), id(7, 7, 7)}) {
			t.Fatal("shared", whole)
		}
	}
}
