package digest_test

import (
	"math"
	"math/rand"
	"slices"
	"testing"

	"grapevine/api"
	"grapevine/digest"
	"grapevine/seen"
)

func id(node uint8, inc uint16, seq uint32) api.ID {
	return api.ID{Node: node, Inc: inc, Seq: seq}
}

func mark(node uint8, inc uint16, seq uint32) api.Mark {
	return api.Mark{Node: node, Inc: inc, Seq: seq}
}

var rows = []api.Row{{Inc: 1, Prefix: 2, Bits: 2}, {}, {Inc: 3}}

func TestExamples(t *testing.T) {
	if got := digest.Marks(rows); !slices.Equal(got, []api.Mark{mark(0, 1, 2), mark(2, 3, 0)}) {
		t.Error(got)
	}
	ids := []api.ID{id(0, 1, 2), id(0, 1, 3), id(0, 1, 4), id(1, 1, 1), id(2, 2, 1), id(2, 3, 1), id(0, 1, 3), id(5, 1, 1)}
	if got := digest.Lacks(ids, rows, 4); !slices.Equal(got, []api.ID{id(0, 1, 3), id(1, 1, 1), id(2, 3, 1)}) {
		t.Error(got)
	}
	if got := digest.Lacks(ids, nil, 4); len(got) != 0 {
		t.Error(got)
	}
	if got := digest.Lacks(nil, rows, 4); len(got) != 0 || len(digest.Marks(nil)) != 0 || len(digest.Marks(make([]api.Row, 256))) != 0 {
		t.Error(got)
	}
	wide := []api.ID{id(2, 3, 64), id(2, 3, 65), id(2, 3, 9), id(2, 3, 0), id(1, 0, 1), id(3, 1, 1), id(2, 4, 1)}
	if got := digest.Lacks(wide, rows, 64); !slices.Equal(got, []api.ID{id(2, 3, 64), id(2, 3, 9), id(2, 4, 1)}) {
		t.Error(got)
	}
	whole := make([]api.Row, 256)
	whole[255] = api.Row{Inc: 7, Prefix: 9}
	if got := digest.Marks(whole); !slices.Equal(got, []api.Mark{mark(255, 7, 9)}) {
		t.Error(got)
	}
	if got := digest.Lacks([]api.ID{id(255, 7, 9), id(255, 7, 10)}, whole, 1); !slices.Equal(got, []api.ID{id(255, 7, 10)}) {
		t.Error(got)
	}
}

func TestNewer(t *testing.T) {
	for _, c := range []struct {
		a, b api.Mark
		want bool
	}{
		{mark(0, 2, 1), mark(0, 1, 9), true}, {mark(0, 1, 1), mark(1, 0, 0), false}, {mark(0, 1, 9), mark(0, 2, 1), false}, {mark(0, 1, 2), mark(0, 1, 1), true}, {mark(0, 1, 1), mark(0, 1, 1), false},
		{mark(0, 1, 1), mark(0, 1, 2), false}, {mark(3, 0, 1), mark(3, 0, 0), true}, {mark(3, 65535, 0), mark(3, 65534, math.MaxUint32), true}, {mark(4, 9, 9), mark(3, 1, 1), false},
	} {
		if got := digest.Newer(c.a, c.b); got != c.want {
			t.Error(c, got)
		}
	}
}

func random(r *rand.Rand, window int) ([]api.Row, []api.ID) {
	l := make([]api.Row, r.Intn(5))
	var recorded []api.ID
	for i := range l {
		for range r.Intn(10) {
			x := id(uint8(i), uint16(1+r.Intn(2)), uint32(1+r.Intn(8)))
			var ok bool
			if l[i], ok = seen.Take(l[i], x, window); ok {
				recorded = append(recorded, x)
			}
		}
	}
	return l, recorded
}

func TestAtRandom(t *testing.T) {
	r := rand.New(rand.NewSource(1))
	for range 3000 {
		window := 1 + r.Intn(8)
		l, _ := random(r, window)
		var ids []api.ID
		for range r.Intn(30) {
			ids = append(ids, id(uint8(r.Intn(6)), uint16(r.Intn(4)), uint32(r.Intn(9))))
		}
		got := digest.Lacks(ids, l, window)
		var want []api.ID
		for _, x := range ids {
			if int(x.Node) < len(l) && seen.May(l[x.Node], x, window) && !slices.Contains(want, x) {
				want = append(want, x)
			}
		}
		if !slices.Equal(got, want) {
			t.Fatal(ids, l, window, got)
		}
		for _, x := range got {
			next := slices.Clone(l)
			var ok bool
			if next[x.Node], ok = seen.Take(l[x.Node], x, window); !ok || slices.Contains(digest.Lacks(ids, next, window), x) {
				t.Fatal("recorded, and lacked", x)
			}
			was, is := digest.Marks(l), digest.Marks(next)
			for _, a := range is {
				for _, b := range was {
					if a.Node == b.Node && a != b && !digest.Newer(a, b) {
						t.Fatal("an older mark", a, b)
					}
				}
			}
		}
		var marks []api.Mark
		for i, r := range l {
			if r.Inc > 0 {
				marks = append(marks, mark(uint8(i), r.Inc, r.Prefix))
			}
		}
		if !slices.Equal(digest.Marks(l), marks) {
			t.Fatal("Marks", l)
		}
	}
}

// Who has seen all that another one has lacks nothing that the other one offers up to its marks.
func TestNothingLacked(t *testing.T) {
	r := rand.New(rand.NewSource(2))
	for range 1000 {
		other, _ := random(r, 8)
		mine := slices.Clone(other)
		var offered []api.ID
		for _, m := range digest.Marks(other) {
			for seq := range m.Seq {
				offered = append(offered, id(m.Node, m.Inc, seq+1))
			}
			mine[m.Node], _ = seen.Take(mine[m.Node], id(m.Node, m.Inc, uint32(1+r.Intn(9))), 8)
		}
		if got := digest.Lacks(offered, mine, 8); len(got) != 0 {
			t.Fatal(other, mine, got)
		}
	}
}

func TestMemory(t *testing.T) {
	ids := []api.ID{id(1, 1, 1), id(2, 3, 1), id(7, 7, 7), id(7, 7, 7)}
	got := digest.Lacks(ids[:2], rows, 4)
	got[0], got[1] = id(99, 9, 9), id(99, 9, 9)
	_ = append(got, id(98, 9, 9))
	marks := digest.Marks(rows)
	marks[0] = mark(9, 9, 9)
	if !slices.Equal(ids, []api.ID{id(1, 1, 1), id(2, 3, 1), id(7, 7, 7), id(7, 7, 7)}) || rows[0] != (api.Row{Inc: 1, Prefix: 2, Bits: 2}) {
		t.Error("shared", ids, rows)
	}
}

// Rows that are not right, and more than 256, bring nothing down.
func TestAnything(t *testing.T) {
	odd := make([]api.Row, 300)
	for i := range odd {
		odd[i] = api.Row{Inc: uint16(i), Prefix: math.MaxUint32, Bits: math.MaxUint64}
	}
	digest.Marks(odd)
	for _, window := range []int{0, -1, 65, math.MaxInt} {
		digest.Lacks([]api.ID{id(0, 1, 3), id(1, 1, 1)}, rows, window)
	}
	digest.Lacks([]api.ID{id(0, 1, 1), id(9, 9, 1), id(255, 255, 0)}, odd, 64)
}
