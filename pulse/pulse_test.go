package pulse_test

import (
	"math"
	"math/rand"
	"slices"
	"testing"

	"grapevine/api"
	"grapevine/pulse"
)

const (
	none    = api.MemNone
	alive   = api.MemAlive
	suspect = api.MemSuspect
	left    = api.MemLeft
)

func of(inc uint16, state, quiet uint8) api.Member {
	return api.Member{Inc: inc, State: state, Quiet: quiet}
}

func TestNew(t *testing.T) {
	for nodes, want := range map[int]int{0: 0, -1: 0, math.MinInt: 0, 1: 1, 12: 12, 256: 256} {
		l := pulse.New(nodes)
		if len(l) != want || slices.ContainsFunc(l, func(m api.Member) bool { return m != api.Member{} }) {
			t.Error(nodes, l)
		}
	}
	pulse.New(math.MaxInt)
	pulse.New(257)
}

func TestNewer(t *testing.T) {
	for _, c := range []struct {
		a, b api.Member
		want bool
	}{
		{of(2, alive, 9), of(1, left, 0), true}, {of(1, left, 0), of(2, alive, 9), false}, {of(1, suspect, 0), of(1, alive, 0), true}, {of(1, left, 0), of(1, suspect, 0), true},
		{of(1, alive, 0), of(1, suspect, 0), false}, {of(1, alive, 0), of(1, alive, 9), false}, {of(1, alive, 9), of(1, alive, 0), false},
		{of(0, left, 0), of(0, none, 0), false}, {of(1, alive, 0), of(0, none, 0), true}, {of(1, 200, 0), of(1, left, 0), true}, {of(1, left, 0), of(1, 4, 0), false}, {of(1, 0, 0), of(0, 9, 9), true}, {of(3, 0, 0), of(3, 0, 0), false},
	} {
		if got := pulse.Newer(c.a, c.b); got != c.want {
			t.Error(c, got)
		}
	}
}

func TestExamples(t *testing.T) {
	l := pulse.New(3)
	check := func(what string, want api.Member) {
		t.Helper()
		if l[1] != want || l[0] != (api.Member{}) || l[2] != (api.Member{}) || len(l) != 3 {
			t.Error(what, l)
		}
	}
	l = pulse.Heard(l, 1, 4)
	check("heard", of(4, alive, 0))
	l, s := pulse.Tick(l, 0, 2)
	check("one tick", of(4, alive, 1))
	if len(s) != 0 {
		t.Error(s)
	}
	l, s = pulse.Tick(l, 0, 2)
	check("two ticks", of(4, suspect, 2))
	if !slices.Equal(s, []uint8{1}) {
		t.Error(s)
	}
	l, s = pulse.Tick(l, 0, 2)
	check("suspected once", of(4, suspect, 3))
	if len(s) != 0 {
		t.Error(s)
	}
	l = pulse.Heard(l, 1, 4)
	check("heard again", of(4, alive, 0))
	l = pulse.Heard(l, 1, 3)
	check("an older one", of(4, alive, 0))
	l = pulse.Left(l, 1, 4)
	check("left", of(4, left, 0))
	l = pulse.Heard(l, 1, 4)
	check("has left", of(4, left, 0))
	l = pulse.Heard(l, 1, 5)
	check("another life", of(5, alive, 0))
}

func TestHeardLeft(t *testing.T) {
	for i, c := range []struct {
		m           api.Member
		inc         uint16
		heard, gone api.Member
	}{
		{of(0, none, 0), 0, of(0, none, 0), of(0, none, 0)},
		{of(0, none, 0), 1, of(1, alive, 0), of(1, left, 0)},
		{of(3, alive, 7), 0, of(3, alive, 7), of(3, alive, 7)},
		{of(3, alive, 7), 2, of(3, alive, 7), of(3, alive, 7)},
		{of(3, alive, 7), 3, of(3, alive, 0), of(3, left, 7)},
		{of(3, suspect, 7), 3, of(3, alive, 0), of(3, left, 7)},
		{of(3, suspect, 7), 4, of(4, alive, 0), of(4, left, 0)},
		{of(3, left, 7), 3, of(3, left, 7), of(3, left, 7)},
		{of(3, left, 7), 4, of(4, alive, 0), of(4, left, 0)},
		{of(3, left, 7), 2, of(3, left, 7), of(3, left, 7)},
		{of(1, suspect, 7), 1, of(1, alive, 0), of(1, left, 7)},
		{of(65535, alive, 255), 65535, of(65535, alive, 0), of(65535, left, 255)},
	} {
		l := []api.Member{of(9, alive, 9), c.m, of(9, left, 9)}
		if got := pulse.Heard(l, 1, c.inc); !slices.Equal(got, []api.Member{l[0], c.heard, l[2]}) {
			t.Error(i, "Heard", got)
		}
		if got := pulse.Left(l, 1, c.inc); !slices.Equal(got, []api.Member{l[0], c.gone, l[2]}) {
			t.Error(i, "Left", got)
		}
		for _, node := range []uint8{3, 255} {
			if !slices.Equal(pulse.Heard(l, node, 99), l) || !slices.Equal(pulse.Left(l, node, 99), l) {
				t.Error(i, "no such node")
			}
		}
	}
	if len(pulse.Heard(nil, 0, 1)) != 0 || len(pulse.Left(nil, 0, 1)) != 0 {
		t.Error("an empty table")
	}
}

func TestMerge(t *testing.T) {
	l := []api.Member{of(1, alive, 5), of(1, alive, 5), of(2, suspect, 5), of(0, none, 0), of(3, left, 5)}
	other := []api.Member{of(9, left, 9), of(1, suspect, 9), of(2, alive, 9), of(4, left, 9), of(4, alive, 9), of(7, alive, 7)}
	want := []api.Member{l[0], of(1, suspect, 0), l[2], of(4, left, 0), of(4, alive, 0)}
	if got := pulse.Merge(l, other, 0); !slices.Equal(got, want) {
		t.Error(got)
	}
	if got := pulse.Merge(l, other[:2], 9); !slices.Equal(got, []api.Member{of(9, left, 0), want[1], l[2], l[3], l[4]}) {
		t.Error("a shorter one", got)
	}
	if got := pulse.Merge(l, nil, 0); !slices.Equal(got, l) {
		t.Error(got)
	}
	if got := pulse.Merge(nil, other, 0); len(got) != 0 {
		t.Error(got)
	}
}

func TestTickUp(t *testing.T) {
	l := []api.Member{of(1, alive, 5), of(1, alive, 5), of(2, suspect, 255), of(0, none, 0), of(3, left, 5), of(2, alive, 255), of(2, alive, 1)}
	want := []api.Member{l[0], of(1, suspect, 6), of(2, suspect, 255), l[3], l[4], of(2, suspect, 255), of(2, alive, 2)}
	got, s := pulse.Tick(l, 0, 6)
	if !slices.Equal(got, want) || !slices.Equal(s, []uint8{1, 5}) {
		t.Error(got, s)
	}
	want[1].State, want[5].State = alive, alive
	if got, s := pulse.Tick(l, 0, 256); !slices.Equal(got, want) || len(s) != 0 {
		t.Error("never suspected", got, s)
	}
	for _, after := range []int{0, 1, -1, math.MinInt} {
		if got, s := pulse.Tick(l, 200, after); !slices.Equal(s, []uint8{0, 1, 5, 6}) || got[6] != of(2, suspect, 2) || got[0] != of(1, suspect, 6) {
			t.Error("at once", got, s)
		}
	}
	if got := pulse.Up(l); !slices.Equal(got, []uint8{0, 1, 2, 5, 6}) {
		t.Error(got)
	}
	if got, s := pulse.Tick(nil, 0, 1); len(got) != 0 || len(s) != 0 || len(pulse.Up(nil)) != 0 {
		t.Error("an empty table")
	}
	whole := make([]api.Member, 256)
	whole[255] = of(1, alive, 0)
	if got, s := pulse.Tick(whole, 0, 1); got[255] != of(1, suspect, 1) || !slices.Equal(s, []uint8{255}) || !slices.Equal(pulse.Up(whole), []uint8{255}) {
		t.Error("the last one of 256")
	}
	if got := pulse.Heard(whole, 255, 2); got[255] != of(2, alive, 0) {
		t.Error("the last one of 256")
	}
}

func random(r *rand.Rand) []api.Member {
	l := make([]api.Member, 5)
	for i := range l {
		if inc := uint16(r.Intn(4)); inc > 0 {
			l[i] = of(inc, uint8(1+r.Intn(3)), uint8(r.Intn(9)))
		}
	}
	return l
}

func states(l []api.Member) []api.Member {
	l = slices.Clone(l)
	for i := range l {
		l[i].Quiet = 0
	}
	return l
}

// Merged in any order, and twice, tables have the same incarnations and states; incarnations never fall.
func TestConsequences(t *testing.T) {
	r := rand.New(rand.NewSource(1))
	for range 2000 {
		a, b, c := random(r), random(r), random(r)
		abc := pulse.Merge(pulse.Merge(a, b, 9), c, 9)
		for _, other := range [][]api.Member{
			pulse.Merge(pulse.Merge(a, c, 9), b, 9), pulse.Merge(pulse.Merge(c, b, 9), a, 9),
			pulse.Merge(a, pulse.Merge(b, c, 9), 9), pulse.Merge(pulse.Merge(abc, b, 9), a, 9),
		} {
			if !slices.Equal(states(abc), states(other)) {
				t.Fatal(a, b, c, abc, other)
			}
		}
		node, inc := uint8(r.Intn(5)), uint16(r.Intn(5))
		ticked, _ := pulse.Tick(a, node, 3)
		for _, next := range [][]api.Member{abc, pulse.Heard(a, node, inc), pulse.Left(a, node, inc), ticked} {
			for i := range a {
				if next[i].Inc < a[i].Inc || next[i].Inc == a[i].Inc && a[i].State == left && next[i].State != left {
					t.Fatal("back", a, next)
				}
				if (next[i].Inc == 0) != (next[i].State == none) || next[i].Inc == 0 && next[i].Quiet != 0 {
					t.Fatal("no table", a, next)
				}
			}
		}
	}
}

func TestMemory(t *testing.T) {
	whole := func() []api.Member {
		return []api.Member{of(1, alive, 5), of(1, suspect, 5), of(0, none, 0), of(7, 7, 7), of(7, 7, 7)}
	}
	all, other := whole(), []api.Member{of(5, left, 5), of(5, left, 5), of(5, left, 5)}
	l := all[:3]
	ticked, _ := pulse.Tick(l, 0, 1)
	for i, got := range [][]api.Member{ticked, pulse.Heard(l, 0, 9), pulse.Heard(l, 9, 9), pulse.Left(l, 0, 9), pulse.Left(l, 9, 9), pulse.Merge(l, other, 9), pulse.Merge(l, nil, 9)} {
		for i := range got {
			got[i] = of(99, 9, 9)
		}
		_ = append(got, of(98, 9, 9))
		if !slices.Equal(all, whole()) || other[0] != of(5, left, 5) {
			t.Fatal("shared", i, all)
		}
	}
}
