package peer_test

import (
	"cmp"
	"fmt"
	"math/rand"
	"reflect"
	"slices"
	"testing"

	"grapevine/peer"
)

// part is the memory of a list, with what lies behind its elements.
type part struct {
	from, to uintptr
	result   bool
}

func parts(v reflect.Value, result bool) []part {
	var l []part
	switch v.Kind() {
	case reflect.Slice:
		if v.Cap() > 0 {
			l = append(l, part{v.Pointer(), v.Pointer() + uintptr(v.Cap())*v.Type().Elem().Size(), result})
		}
		for i := range v.Len() {
			l = append(l, parts(v.Index(i), result)...)
		}
	case reflect.Struct:
		for i := range v.NumField() {
			l = append(l, parts(v.Field(i), result)...)
		}
	}
	return l
}

// shared reports whether some list of the results has memory of another list of them, or of an argument.
func shared(results, args []any) bool {
	var l []part
	for _, x := range results {
		l = append(l, parts(reflect.ValueOf(x), true)...)
	}
	for _, x := range args {
		l = append(l, parts(reflect.ValueOf(x), false)...)
	}
	slices.SortFunc(l, func(a, b part) int { return cmp.Compare(a.from, b.from) })
	var last, lastResult uintptr // how far the memory of any list, and of a result, goes so far
	for _, p := range l {
		if p.from < lastResult || p.result && p.from < last {
			return true
		}
		last = max(last, p.to)
		if p.result {
			lastResult = max(lastResult, p.to)
		}
	}
	return false
}

// Results are in memory of their own, and arguments stay as they are.
func TestMemory(t *testing.T) {
	r := rand.New(rand.NewSource(2))
	for range 60 {
		k := newCluster(r)
		for range 80 {
			k.step(t)
			p, m, f, l, draws := k.peers[r.Intn(len(k.peers))], k.forged(), k.filter(), k.descs(4), k.draws()
			m.To = p.Node
			if len(k.pool) > 0 && r.Intn(2) == 0 {
				m = k.pool[r.Intn(len(k.pool))]
				p = k.peers[m.To]
			}
			args := []any{k.c, p, m, f, l, draws}
			before := fmt.Sprint(args...)
			var results [][]any
			add := func(x ...any) { results = append(results, x) }
			q, e := peer.Start(k.c, p)
			add(q, e)
			q, e = peer.Want(k.c, p, f)
			add(q, e)
			q, ok := peer.Hear(k.c, p, m.From, m.Inc)
			add(q, ok)
			q, s, e := peer.Leave(k.c, p)
			add(q, s, e)
			q, s = peer.Take(k.c, p, m, draws)
			add(q, s)
			q, s = peer.Tick(k.c, p, draws)
			add(q, s)
			s, e = peer.Join(k.c, p, m.From)
			add(s, e)
			add(peer.New(k.c, 1))
			add(peer.Down(k.c, p))
			add(peer.Self(p))
			add(peer.Links(p))
			add(peer.Fine(k.c, l))
			add(peer.Meet(k.c, p, l))
			if fmt.Sprint(args...) != before {
				t.Fatal("an argument changed", before, args)
			}
			for i, x := range results {
				if shared(x, args) {
					t.Fatal("shared", i, x)
				}
			}
		}
	}
}
