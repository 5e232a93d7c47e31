package pull_test

import (
	"cmp"
	"math"
	"math/rand"
	"slices"
	"testing"

	"grapevine/api"
	"grapevine/ident"
	"grapevine/pull"
)

func id(node uint8, inc uint16, seq uint32) api.ID {
	return api.ID{Node: node, Inc: inc, Seq: seq}
}

func ask(node uint8, inc uint16, seq uint32, from, left uint8) api.Ask {
	return api.Ask{ID: id(node, inc, seq), From: from, Left: left}
}

func TestExamples(t *testing.T) {
	l, err := pull.Add(nil, ask(0, 1, 2, 3, 2), 2)
	if err != api.OK || !slices.Equal(l, []api.Ask{ask(0, 1, 2, 3, 2)}) {
		t.Error(l, err)
	}
	l, err = pull.Add(l, ask(0, 1, 1, 3, 1), 2)
	want := []api.Ask{ask(0, 1, 1, 3, 1), ask(0, 1, 2, 3, 2)}
	if err != api.OK || !slices.Equal(l, want) {
		t.Error(l, err)
	}
	for i, c := range []struct {
		x    api.Ask
		most int
		err  api.Errno
	}{
		{ask(0, 1, 1, 3, 1), 2, api.ErrThere}, {ask(0, 1, 1, 9, 255), 5, api.ErrThere}, {ask(1, 1, 1, 3, 1), 2, api.ErrFull}, {ask(1, 1, 1, 3, 0), 2, api.ErrArg}, {ask(0, 1, 1, 3, 0), 2, api.ErrArg}, {ask(0, 1, 1, 3, 1), 0, api.ErrThere},
		{ask(1, 1, 1, 3, 1), 1, api.ErrFull}, {ask(1, 1, 1, 3, 1), 0, api.ErrFull}, {ask(1, 1, 1, 3, 1), -1, api.ErrFull}, {ask(1, 1, 1, 3, 1), math.MinInt, api.ErrFull},
	} {
		if got, err := pull.Add(l, c.x, c.most); err != c.err || !slices.Equal(got, want) {
			t.Error(i, got, err)
		}
	}
	l, out := pull.Tick(l)
	if !slices.Equal(l, []api.Ask{ask(0, 1, 2, 3, 1)}) || !slices.Equal(out, []api.ID{id(0, 1, 1)}) {
		t.Error(l, out)
	}
	if got, err := pull.Add(nil, ask(1, 1, 1, 3, 1), 0); err != api.ErrFull || len(got) != 0 {
		t.Error(got, err)
	}
	if l, out := pull.Tick(nil); len(l) != 0 || len(out) != 0 || pull.Has(nil, id(0, 0, 0)) || len(pull.Drop(nil, id(0, 0, 0))) != 0 {
		t.Error("an empty list")
	}
}

func TestRight(t *testing.T) {
	a, b := ask(0, 1, 1, 9, 1), ask(0, 1, 2, 0, 255)
	for i, c := range []struct {
		l    []api.Ask
		most int
		want bool
	}{
		{nil, 0, true}, {nil, -1, false}, {nil, math.MinInt, false}, {[]api.Ask{a, b}, 2, true}, {[]api.Ask{a, b}, 1, false}, {[]api.Ask{a, b}, math.MaxInt, true}, {[]api.Ask{b, a}, 2, false}, {[]api.Ask{a, a}, 2, false},
		{[]api.Ask{a, ask(0, 1, 2, 0, 0)}, 2, false}, {[]api.Ask{ask(0, 1, 0, 0, 0), a}, 2, false}, {[]api.Ask{{Left: 1}}, 1, true},
	} {
		if got := pull.Right(c.l, c.most); got != c.want {
			t.Error(i, got)
		}
	}
}

// Has is about any lists.
func TestHas(t *testing.T) {
	l := []api.Ask{ask(5, 1, 1, 0, 0), ask(0, 1, 1, 0, 1)}
	if !pull.Has(l, id(0, 1, 1)) || !pull.Has(l, id(5, 1, 1)) || pull.Has(l, id(0, 1, 2)) || pull.Has(l, id(0, 2, 1)) || pull.Has(l, id(1, 1, 1)) {
		t.Error("Has")
	}
}

// A list is compared with a map of its asks.
func TestAtRandom(t *testing.T) {
	r := rand.New(rand.NewSource(1))
	for range 400 {
		most := r.Intn(6)
		var l []api.Ask
		want := map[api.ID]api.Ask{}
		for range 40 {
			x := ask(uint8(r.Intn(3)), uint16(r.Intn(2)), uint32(r.Intn(3)), uint8(r.Intn(9)), uint8(r.Intn(4)))
			switch r.Intn(5) {
			case 0:
				l = pull.Drop(l, x.ID)
				delete(want, x.ID)
			case 1:
				var out, gone []api.ID
				l, out = pull.Tick(l)
				for y, a := range want {
					if a.Left--; a.Left == 0 {
						gone = append(gone, y)
						delete(want, y)
					} else {
						want[y] = a
					}
				}
				slices.SortFunc(gone, func(a, b api.ID) int {
					return cmp.Or(cmp.Compare(a.Node, b.Node), cmp.Compare(a.Inc, b.Inc), cmp.Compare(a.Seq, b.Seq))
				})
				if !slices.Equal(out, gone) {
					t.Fatal("ran out", out, gone)
				}
			default:
				_, there := want[x.ID]
				err := api.OK
				switch {
				case x.Left == 0:
					err = api.ErrArg
				case there:
					err = api.ErrThere
				case len(want) >= most:
					err = api.ErrFull
				default:
					want[x.ID] = x
				}
				got, e := pull.Add(l, x, most)
				if e != err || err != api.OK && !slices.Equal(got, l) {
					t.Fatal("Add", l, x, got, e)
				}
				l = got
			}
			if !pull.Right(l, most) || len(l) != len(want) {
				t.Fatal(l, want)
			}
			for i, a := range l {
				if want[a.ID] != a || !pull.Has(l, a.ID) || i > 0 && !ident.Less(l[i-1].ID, a.ID) {
					t.Fatal(l, want)
				}
			}
		}
	}
}

// An ask that is not dropped runs out after exactly as many ticks as it had.
func TestRunOut(t *testing.T) {
	for left := 1; left < 256; left++ {
		l, _ := pull.Add(nil, ask(1, 2, 3, 4, uint8(left)), 1)
		for i := 1; i <= left; i++ {
			var out []api.ID
			if l, out = pull.Tick(l); (len(out) == 1) != (i == left) || (len(l) == 0) != (i == left) {
				t.Fatal(left, i, l, out)
			}
		}
	}
}

func TestMemory(t *testing.T) {
	whole := func() []api.Ask {
		return []api.Ask{ask(1, 1, 1, 1, 1), ask(1, 1, 2, 1, 9), ask(7, 7, 7, 7, 7), ask(7, 7, 7, 7, 7)}
	}
	all := whole()
	l := all[:2]
	put, _ := pull.Add(l, ask(0, 1, 1, 1, 1), 9)
	last, _ := pull.Add(l, ask(9, 1, 1, 1, 1), 9)
	there, _ := pull.Add(l, l[0], 9)
	none, _ := pull.Add(l, api.Ask{}, 9)
	full, _ := pull.Add(l, ask(0, 1, 1, 1, 1), 2)
	ticked, _ := pull.Tick(l)
	for i, got := range [][]api.Ask{put, last, there, none, full, ticked, pull.Drop(l, id(1, 1, 1)), pull.Drop(l, id(9, 1, 1))} {
		for i := range got {
			got[i] = ask(99, 9, 9, 9, 9)
		}
		_ = append(got, ask(98, 9, 9, 9, 9))
		if !slices.Equal(all, whole()) {
			t.Fatal("shared", i)
		}
	}
}

// Lists that are not right bring nothing down.
func TestAnything(t *testing.T) {
	l := []api.Ask{ask(5, 1, 1, 0, 0), ask(0, 1, 1, 0, 1), ask(5, 1, 1, 0, 0)}
	pull.Tick(l)
	pull.Add(l, ask(1, 1, 1, 1, 1), 9)
	pull.Drop(l, id(5, 1, 1))
}
