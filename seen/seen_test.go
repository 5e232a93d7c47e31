package seen_test

import (
	"math"
	"math/rand"
	"testing"

	"grapevine/api"
	"grapevine/seen"
)

func id(inc uint16, seq uint32) api.ID { return api.ID{Inc: inc, Seq: seq} }

func row(inc uint16, prefix uint32, bits uint64) api.Row {
	return api.Row{Inc: inc, Prefix: prefix, Bits: bits}
}

const top = math.MaxUint32

func TestExamples(t *testing.T) {
	r := api.Row{}
	for i, c := range []struct {
		inc  uint16
		seq  uint32
		want api.Row
		ok   bool
	}{
		{1, 2, row(1, 0, 2), true},
		{1, 1, row(1, 2, 0), true},
		{1, 2, row(1, 2, 0), false},
		{1, 7, row(1, 2, 0), false},
		{1, 6, row(1, 2, 8), true},
		{1, 6, row(1, 2, 8), false},
		{2, 1, row(2, 1, 0), true},
		{1, 3, row(2, 1, 0), false},
	} {
		x := id(c.inc, c.seq)
		if seen.May(r, x, 4) != c.ok {
			t.Error(i, "May")
		}
		var ok bool
		if r, ok = seen.Take(r, x, 4); r != c.want || ok != c.ok {
			t.Error(i, r, ok)
		}
	}
	if seen.Mark(5, r) != (api.Mark{Node: 5, Inc: 2, Seq: 1}) || seen.Mark(0, api.Row{}) != (api.Mark{}) || seen.Mark(255, row(65535, top, 0)) != (api.Mark{Node: 255, Inc: 65535, Seq: top}) {
		t.Error("Mark")
	}
}

func TestRight(t *testing.T) {
	for i, c := range []struct {
		r      api.Row
		window int
		want   bool
	}{
		{row(0, 0, 0), 1, true}, {row(0, 0, 0), 64, true}, {row(0, 0, 0), 0, false}, {row(0, 0, 0), 65, false}, {row(0, 0, 0), -1, false}, {row(0, 0, 0), math.MaxInt, false},
		{row(0, 1, 0), 4, false}, {row(0, 0, 2), 4, false}, {row(1, 0, 0), 4, true}, {row(1, 0, 1), 4, false}, {row(1, 0, 3), 4, false},
		{row(1, 0, 14), 4, true}, {row(1, 0, 16), 4, false}, {row(1, 0, 16), 5, true}, {row(1, 0, 1<<63), 64, true}, {row(1, 0, 1<<63), 63, false}, {row(1, 9, math.MaxUint64-1), 64, true},
		{row(1, 0, 2), 1, false}, {row(1, 0, 2), 2, true},
		{row(1, top, 0), 64, true}, {row(1, top, 2), 64, false}, {row(1, top-1, 2), 64, false}, {row(1, top-2, 2), 64, true}, {row(1, top-2, 4), 64, false}, {row(1, top-64, 1<<63), 64, true}, {row(1, top-63, 1<<63), 64, false},
	} {
		if got := seen.Right(c.r, c.window); got != c.want {
			t.Error(i, c, got)
		}
	}
}

func TestHas(t *testing.T) {
	r := row(3, 5, 1<<1|1<<63)
	for _, c := range []struct {
		r    api.Row
		x    api.ID
		want bool
	}{
		{r, id(3, 0), false}, {r, id(3, 1), true}, {r, id(3, 5), true}, {r, id(3, 6), false}, {r, id(3, 7), true}, {r, id(3, 8), false},
		{r, id(3, 68), false}, {r, id(3, 69), true}, {r, id(3, 70), false}, {r, id(3, 71), false}, {r, id(3, 6+64+1), false}, {r, id(3, top), false},
		{r, id(2, 1), false}, {r, id(4, 1), false}, {api.Row{}, id(0, 0), false}, {api.Row{}, id(0, 1), false}, {row(1, top, 0), id(1, top), true}, {row(1, top, 0), id(1, 0), false},
	} {
		if got := seen.Has(c.r, c.x); got != c.want {
			t.Error(c, got)
		}
	}
	if !seen.Has(r, api.ID{Node: 200, Inc: 3, Seq: 1}) {
		t.Error("the node does not matter")
	}
}

func TestMay(t *testing.T) {
	r := row(3, 5, 2)
	for _, c := range []struct {
		r      api.Row
		x      api.ID
		window int
		want   bool
	}{
		{r, id(3, 6), 4, true}, {r, id(3, 7), 4, false}, {r, id(3, 9), 4, true}, {r, id(3, 10), 4, false}, {r, id(3, 5), 4, false}, {r, id(3, 0), 4, false},
		{r, id(2, 6), 4, false}, {r, id(0, 6), 4, false}, {r, id(4, 4), 4, true}, {r, id(4, 5), 4, false}, {r, id(4, 0), 4, false}, {row(3, 5, 0), id(4, 1), 1, true}, {row(3, 5, 0), id(4, 2), 1, false}, {row(3, 5, 0), id(3, 6), 1, true}, {row(3, 5, 0), id(3, 7), 1, false},
		{r, id(3, 6), 0, false}, {r, id(3, 6), 65, false}, {r, id(3, 6), -1, false}, {r, id(3, 6), math.MinInt, false}, {r, id(3, 69), 64, true}, {r, id(3, 70), 64, false},
		{api.Row{}, id(0, 1), 4, false}, {api.Row{}, id(1, 4), 4, true}, {api.Row{}, id(1, 5), 4, false}, {api.Row{}, id(65535, 64), 64, true},
		{row(1, top-2, 0), id(1, top), 64, true}, {row(1, top-2, 0), id(1, 1), 64, false}, {row(1, top, 0), id(1, top), 64, false}, {row(1, top, 0), id(1, 1), 64, false}, {row(1, top, 0), id(2, 1), 64, true},
	} {
		if got := seen.May(c.r, c.x, c.window); got != c.want {
			t.Error(c, got)
		}
		if got, ok := seen.Take(c.r, c.x, c.window); ok != c.want || !ok && got != c.r || ok && !seen.Has(got, c.x) {
			t.Error("Take", c, got, ok)
		}
	}
	if got, ok := seen.Take(row(1, top-2, 2), id(1, top-1), 64); got != row(1, top, 0) || !ok {
		t.Error("at the end of the numbers", got, ok)
	}
}

// A row is compared with the set of all numbers that were recorded in it.
func TestAtRandom(t *testing.T) {
	r := rand.New(rand.NewSource(1))
	for range 300 {
		window := 1 + r.Intn(64)
		var now api.Row
		had := map[uint32]bool{}
		for range 120 {
			x := api.ID{Node: uint8(r.Intn(256)), Inc: now.Inc, Seq: now.Prefix + uint32(r.Intn(window+4))}
			if r.Intn(40) == 0 {
				x.Inc += uint16(r.Intn(3)) - 1
			}
			prefix := uint32(0)
			for had[prefix+1] {
				prefix++
			}
			may := x.Inc > 0 && x.Seq > 0
			switch {
			case x.Inc > now.Inc:
				may = may && x.Seq <= uint32(window)
			case x.Inc == now.Inc:
				may = may && !had[x.Seq] && x.Seq <= prefix+uint32(window)
			default:
				may = false
			}
			next, ok := seen.Take(now, x, window)
			if ok != may || seen.May(now, x, window) != may || !ok && next != now {
				t.Fatal(now, x, window, next, ok)
			}
			if ok && x.Inc > now.Inc {
				had = map[uint32]bool{}
			}
			if ok {
				had[x.Seq] = true
			}
			now = next
			if !seen.Right(now, window) {
				t.Fatal("not right", now, window)
			}
			for had[prefix+1] {
				prefix++
			}
			for seq := range prefix + 70 {
				if now.Inc > 0 && seen.Has(now, id(now.Inc, seq)) != had[seq] || seen.Has(now, id(now.Inc+1, seq)) {
					t.Fatal("Has", now, seq)
				}
			}
			if ok && seen.Mark(7, now) != (api.Mark{Node: 7, Inc: x.Inc, Seq: now.Prefix}) {
				t.Fatal("Mark", now)
			}
		}
	}
}

// In whatever order the same numbers are recorded, the row is the same.
func TestOrder(t *testing.T) {
	r := rand.New(rand.NewSource(2))
	for range 200 {
		nums := r.Perm(64)[:r.Intn(64)]
		var rows [3]api.Row
		for i := range rows {
			r.Shuffle(len(nums), func(a, b int) { nums[a], nums[b] = nums[b], nums[a] })
			for _, n := range nums {
				var ok bool
				if rows[i], ok = seen.Take(rows[i], id(2, uint32(n+1)), 64); !ok {
					t.Fatal("not recorded", n)
				}
			}
		}
		if rows[0] != rows[1] || rows[1] != rows[2] {
			t.Fatal(rows)
		}
	}
}

// Rows that are not right bring nothing down.
func TestAnything(t *testing.T) {
	for _, x := range []api.Row{row(0, 5, 7), row(1, top, math.MaxUint64), row(1, 0, math.MaxUint64), row(65535, top, 1)} {
		for _, seq := range []uint32{0, 1, 2, 63, 64, 65, top - 1, top} {
			for _, inc := range []uint16{0, 1, 2, 65535} {
				seen.Has(x, id(inc, seq))
				seen.May(x, id(inc, seq), 64)
				seen.Take(x, id(inc, seq), 64)
				seen.Right(x, 64)
			}
		}
	}
}
