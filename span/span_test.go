package span_test

import (
	"math"
	"testing"

	"grapevine/api"
	"grapevine/span"
)

func of(from, to int32) api.Span { return api.Span{From: from, To: to} }

// small is all spans with ends from -4 to 4, empty ones too.
func small() []api.Span {
	var l []api.Span
	for from := int32(-4); from <= 4; from++ {
		for to := int32(-4); to <= 4; to++ {
			l = append(l, of(from, to))
		}
	}
	return l
}

// in is what a span of small contains, by the chapter's words.
func in(s api.Span) map[int32]bool {
	l := map[int32]bool{}
	for v := int32(-5); v <= 5; v++ {
		if s.From <= v && v <= s.To {
			l[v] = true
		}
	}
	return l
}

func TestHasLen(t *testing.T) {
	for _, s := range small() {
		want := in(s)
		for v := int32(-5); v <= 5; v++ {
			if span.Has(s, v) != want[v] {
				t.Error("Has", s, v)
			}
		}
		if int(span.Len(s)) != len(want) {
			t.Error("Len", s, span.Len(s))
		}
	}
	for _, c := range []struct {
		s    api.Span
		want uint32
	}{
		{of(3, 3), 1}, {of(5, 4), 0}, {of(math.MinInt32, math.MaxInt32), 4294967295},
		{of(math.MinInt32+1, math.MaxInt32), 4294967295}, {of(math.MinInt32, math.MaxInt32-1), 4294967295},
		{of(math.MinInt32+1, math.MaxInt32-1), 4294967294}, {of(math.MaxInt32, math.MinInt32), 0},
		{of(0, math.MaxInt32), 1 << 31}, {of(math.MinInt32, -1), 1 << 31},
	} {
		if got := span.Len(c.s); got != c.want {
			t.Error("Len", c.s, got)
		}
	}
	all := of(math.MinInt32, math.MaxInt32)
	if !span.Has(all, math.MinInt32) || !span.Has(all, math.MaxInt32) || span.Has(of(math.MaxInt32, math.MinInt32), 0) {
		t.Error("Has, at the ends")
	}
}

func TestMeetCoversHull(t *testing.T) {
	for _, a := range small() {
		for _, b := range small() {
			ina, inb := in(a), in(b)
			both, covers := 0, true
			for v := range inb {
				if ina[v] {
					both++
				} else {
					covers = false
				}
			}
			m, ok := span.Meet(a, b)
			if ok != (both > 0) || !ok && m != of(0, 0) || ok && (m != of(max(a.From, b.From), min(a.To, b.To)) || len(in(m)) != both) {
				t.Error("Meet", a, b, m, ok)
			}
			if span.Covers(a, b) != covers {
				t.Error("Covers", a, b)
			}
			want := of(min(a.From, b.From), max(a.To, b.To))
			switch {
			case len(ina) == 0 && len(inb) == 0:
				want = of(0, 0)
			case len(ina) == 0:
				want = b
			case len(inb) == 0:
				want = a
			}
			if got := span.Hull(a, b); got != want {
				t.Error("Hull", a, b, got)
			}
		}
	}
}

func TestExamples(t *testing.T) {
	if m, ok := span.Meet(of(1, 5), of(4, 9)); m != of(4, 5) || !ok {
		t.Error(m, ok)
	}
	if m, ok := span.Meet(of(1, 3), of(4, 9)); m != of(0, 0) || ok {
		t.Error(m, ok)
	}
	if !span.Covers(of(1, 9), of(2, 3)) || span.Covers(of(2, 3), of(1, 9)) || !span.Covers(of(5, 5), of(7, 6)) || !span.Covers(of(5, 4), of(7, 6)) {
		t.Error("Covers")
	}
	if span.Hull(of(1, 2), of(8, 9)) != of(1, 9) || span.Hull(of(2, 1), of(9, 8)) != of(0, 0) || span.Hull(of(2, 1), of(8, 9)) != of(8, 9) {
		t.Error("Hull")
	}
	all := of(math.MinInt32, math.MaxInt32)
	if m, ok := span.Meet(all, all); m != all || !ok || !span.Covers(all, all) || span.Hull(all, of(3, 3)) != all || span.Covers(of(math.MinInt32, 0), all) {
		t.Error("the greatest")
	}
}

func TestConsequences(t *testing.T) {
	for _, a := range small() {
		for _, b := range small() {
			m, ok := span.Meet(a, b)
			n, also := span.Meet(b, a)
			h := span.Hull(a, b)
			if m != n || ok != also || h != span.Hull(b, a) {
				t.Error("not commutative", a, b)
			}
			for from := int32(-4); from <= 4; from++ {
				c := of(from, from+4)
				if span.Covers(c, a) && span.Covers(c, b) && (len(in(a)) > 0 || len(in(b)) > 0) && !span.Covers(c, h) {
					t.Error("hull", a, b, c)
				}
				d := of(from, from+1)
				if ok && span.Covers(a, d) && span.Covers(b, d) && !span.Covers(m, d) {
					t.Error("meet", a, b, d)
				}
			}
		}
	}
}
