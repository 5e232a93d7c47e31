package filter_test

import (
	"math"
	"math/rand"
	"slices"
	"testing"

	"grapevine/api"
	"grapevine/filter"
)

var two = api.Schema{{From: 0, To: 9}, {From: -5, To: 5}}

// of makes a filter of ends: from, to, from, to ..
func of(ends ...int32) api.Filter {
	var f api.Filter
	for i := 0; i+1 < len(ends); i += 2 {
		f = append(f, api.Span{From: ends[i], To: ends[i+1]})
	}
	return f
}

func TestNormal(t *testing.T) {
	for _, c := range []struct {
		f, want api.Filter
		err     api.Errno
	}{
		{of(3, 20, -9, 0), of(3, 9, -5, 0), api.OK},
		{of(10, 20, 0, 0), nil, api.OK},
		{of(0, 0, 6, 20), nil, api.OK},
		{of(1, 2), nil, api.ErrFilter},
		{of(1, 2, 1, 2, 1, 2), nil, api.ErrFilter},
		{nil, nil, api.OK},
		{api.Filter{}, nil, api.OK},
		{of(5, 4, 0, 0), nil, api.OK},
		{of(5, 4), nil, api.ErrFilter},
		{of(9, 9, -5, -5), of(9, 9, -5, -5), api.OK},
		{of(math.MinInt32, math.MaxInt32, math.MinInt32, math.MaxInt32), of(0, 9, -5, 5), api.OK},
	} {
		got, err := filter.Normal(two, c.f)
		if !slices.Equal(got, c.want) || err != c.err {
			t.Error(c.f, got, err)
		}
	}
}

func TestRight(t *testing.T) {
	for _, c := range []struct {
		f    api.Filter
		want bool
	}{
		{nil, true}, {api.Filter{}, true}, {of(0, 9, -5, 5), true}, {of(3, 3, 0, 0), true},
		{of(0, 9), false}, {of(0, 9, -5, 5, 0, 0), false}, {of(0, 10, -5, 5), false}, {of(-1, 9, -5, 5), false},
		{of(0, 9, -6, 5), false}, {of(0, 9, -5, 6), false}, {of(4, 3, 0, 0), false}, {of(0, 9, 1, 0), false}, {of(20, 30, 0, 0), false},
	} {
		if got := filter.Right(two, c.f); got != c.want {
			t.Error(c.f, got)
		}
	}
}

func TestMatch(t *testing.T) {
	f := of(3, 9, -5, 0)
	for _, c := range []struct {
		f    api.Filter
		vals []int32
		want bool
	}{
		{f, []int32{4, 0}, true}, {f, []int32{4, 1}, false}, {f, []int32{4}, false}, {f, []int32{2, 0}, false},
		{f, []int32{3, -5}, true}, {f, []int32{9, 0}, true}, {f, []int32{10, 0}, false}, {f, []int32{9, -6}, false},
		{f, []int32{4, 0, 0}, false}, {f, nil, false}, {nil, nil, false}, {api.Filter{}, []int32{}, false}, {nil, []int32{1}, false},
		{of(5, 4), []int32{4}, false}, {of(1, 1, 2, 2, 3, 3, 4, 4, 5, 5), []int32{1, 2, 3, 4, 5}, true},
	} {
		if got := filter.Match(c.f, c.vals); got != c.want {
			t.Error(c.f, c.vals, got)
		}
	}
}

func TestMeetCoversSame(t *testing.T) {
	f := of(3, 9, -5, 0)
	if got := filter.Meet(f, of(0, 3, 0, 9)); !slices.Equal(got, of(3, 3, 0, 0)) {
		t.Error(got)
	}
	for _, g := range []api.Filter{nil, of(3, 9), of(3, 9, -5, 0, 1, 1), of(0, 2, -5, 0), of(3, 9, 1, 5), of(5, 4, -5, 0)} {
		if got := filter.Meet(f, g); len(got) != 0 {
			t.Error(g, got)
		}
		if got := filter.Meet(g, f); len(got) != 0 {
			t.Error(g, got)
		}
	}
	for _, c := range []struct {
		a, b api.Filter
		want bool
	}{
		{f, f, true}, {f, nil, true}, {nil, nil, true}, {nil, f, false}, {f, of(4, 5, -1, 0), true}, {f, of(4, 5, -1, 1), false},
		{f, of(2, 5, -1, 0), false}, {f, of(4, 5), false}, {of(4, 5), f, false}, {f, of(7, 6, 9, 8), true}, {f, of(7, 6, 7, 7), false}, {of(1, 0, 1, 0), of(5, 4, 5, 4), true},
	} {
		if got := filter.Covers(c.a, c.b); got != c.want {
			t.Error(c.a, c.b, got)
		}
	}
	for _, c := range []struct {
		a, b api.Filter
		want bool
	}{
		{f, of(3, 9, -5, 0), true}, {nil, api.Filter{}, true}, {f, nil, false}, {f, of(3, 9), false}, {f, of(3, 9, -5, 1), false}, {f, of(2, 9, -5, 0), false}, {of(1, 0), of(3, 2), false}, {of(3, 9), f, false},
	} {
		if got := filter.Same(c.a, c.b); got != c.want {
			t.Error(c.a, c.b, got)
		}
	}
}

func random(r *rand.Rand) api.Filter {
	var f api.Filter
	for range r.Intn(4) {
		from := int32(r.Intn(9) - 3)
		f = append(f, api.Span{From: from, To: from + int32(r.Intn(7)-1)})
	}
	return f
}

func TestConsequences(t *testing.T) {
	r := rand.New(rand.NewSource(1))
	s := api.Schema{{From: -1, To: 2}, {From: 0, To: 3}}
	for range 4000 {
		a, b := random(r), random(r)
		m := filter.Meet(a, b)
		n, err := filter.Normal(s, a)
		if (err == api.OK) != (len(a) == 0 || len(a) == 2) || !filter.Right(s, n) {
			t.Fatal(a, n, err)
		}
		if filter.Right(s, a) && !filter.Same(n, a) {
			t.Fatal("a right filter is its own normal form", a, n)
		}
		covers := filter.Covers(a, b)
		for x := int32(-4); x <= 9; x++ {
			for y := int32(-4); y <= 9; y++ {
				vals := []int32{x, y}[:min(2, max(1, len(a)))]
				if filter.Match(m, vals) != (filter.Match(a, vals) && filter.Match(b, vals)) {
					t.Fatal("meet", a, b, vals)
				}
				if covers && filter.Match(b, vals) && !filter.Match(a, vals) {
					t.Fatal("covers", a, b, vals)
				}
				fits := x >= -1 && x <= 2 && y >= 0 && y <= 3
				if pair := []int32{x, y}; err == api.OK && filter.Match(n, pair) != (fits && filter.Match(a, pair)) {
					t.Fatal("normal", a, n, pair)
				}
			}
		}
	}
}

func TestMemory(t *testing.T) {
	f := of(3, 9, -5, 0, 77, 77)
	a := f[:2]
	got := filter.Copy(a)
	if !slices.Equal(got, a) {
		t.Error(got)
	}
	n, _ := filter.Normal(two, a)
	for _, l := range []api.Filter{got, n, filter.Meet(a, a)} {
		l[0].From = 55
		_ = append(l, api.Span{})
	}
	if !slices.Equal(f, of(3, 9, -5, 0, 77, 77)) {
		t.Error("shared", f)
	}
	s := api.Schema(of(0, 1))
	n, _ = filter.Normal(s, of(0, 1))
	n[0].From = 5
	if s[0].From != 0 || len(filter.Copy(nil)) != 0 {
		t.Error("shared", s)
	}
}

// Schemas that are not right bring nothing down.
func TestAnything(t *testing.T) {
	for _, s := range []api.Schema{nil, {{From: 5, To: 4}}, make(api.Schema, 9)} {
		for _, f := range []api.Filter{nil, of(5, 4), make(api.Filter, 9)} {
			filter.Right(s, f)
			filter.Normal(s, f)
		}
	}
}
