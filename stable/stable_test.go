package stable_test

import (
	"math"
	"math/rand"
	"slices"
	"testing"

	"grapevine/api"
	"grapevine/seen"
	"grapevine/stable"
)

func mark(node uint8, inc uint16, seq uint32) api.Mark {
	return api.Mark{Node: node, Inc: inc, Seq: seq}
}

func id(node uint8, inc uint16, seq uint32) api.ID {
	return api.ID{Node: node, Inc: inc, Seq: seq}
}

func same(a, b api.Reports) bool {
	return slices.EqualFunc(a, b, func(a, b []api.Mark) bool { return slices.Equal(a, b) })
}

func alive(incs ...uint16) []api.Member {
	var l []api.Member
	for _, inc := range incs {
		m := api.Member{Inc: inc, State: api.MemAlive}
		if inc == 0 {
			m.State = api.MemNone
		}
		l = append(l, m)
	}
	return l
}

func TestNew(t *testing.T) {
	for nodes, want := range map[int]int{0: 0, -1: 0, math.MinInt: 0, 1: 1, 12: 12, 256: 256, 257: 256, math.MaxInt: 256} {
		got := stable.New(nodes)
		if len(got) != want {
			t.Fatal(nodes, len(got))
		}
		for _, row := range got {
			if len(row) != want {
				t.Fatal(nodes, len(row))
			}
			for k, m := range row {
				if m != mark(uint8(k), 0, 0) {
					t.Fatal(nodes, k, m)
				}
			}
		}
	}
}

func TestExamples(t *testing.T) {
	rows := []api.Row{{}, {}, {Inc: 1, Prefix: 5}}
	members := alive(1, 1, 1)
	r := stable.New(3)
	check := func(what string, x api.ID, want bool) {
		t.Helper()
		if got := stable.Stable(r, members, 0, rows, x); got != want {
			t.Error(what, got)
		}
	}
	check("nothing reported", id(2, 1, 4), false)
	r = stable.Report(r, 1, []api.Mark{mark(2, 1, 4)})
	check("one lags", id(2, 1, 4), false)
	r = stable.Report(r, 2, []api.Mark{mark(2, 1, 9)})
	check("all have it", id(2, 1, 4), true)
	check("the next one", id(2, 1, 5), false)
	was := r
	r = stable.Report(r, 1, []api.Mark{mark(2, 1, 3)})
	if !same(r, was) {
		t.Error("an older mark", r)
	}
	later := stable.Report(r, 1, []api.Mark{mark(2, 2, 0)})
	if !stable.Stable(later, members, 0, rows, id(2, 1, 5)) || stable.Stable(later, members, 0, rows, id(2, 1, 6)) {
		t.Error("a greater incarnation")
	}
	members[1].State = api.MemLeft
	check("one left", id(2, 1, 5), true)
	check("its own row lags", id(2, 1, 6), false)
}

func TestOf(t *testing.T) {
	r := stable.Report(stable.New(3), 1, []api.Mark{mark(2, 1, 4), mark(0, 3, 3)})
	for _, c := range []struct {
		member, node uint8
		want         api.Mark
	}{{1, 2, mark(2, 1, 4)}, {1, 0, mark(0, 3, 3)}, {1, 1, mark(1, 0, 0)}, {0, 2, mark(2, 0, 0)}, {3, 2, mark(2, 0, 0)}, {1, 3, mark(3, 0, 0)}, {255, 255, mark(255, 0, 0)}} {
		if got := stable.Of(r, c.member, c.node); got != c.want {
			t.Error(c, got)
		}
	}
	odd := api.Reports{{mark(7, 7, 7)}, nil}
	if stable.Of(odd, 0, 0) != mark(7, 7, 7) || stable.Of(odd, 0, 1) != mark(1, 0, 0) || stable.Of(odd, 1, 0) != mark(0, 0, 0) || stable.Of(nil, 0, 5) != mark(5, 0, 0) {
		t.Error("as it stands")
	}
}

func TestReport(t *testing.T) {
	base := stable.New(3)
	for i, c := range []struct {
		member uint8
		marks  []api.Mark
		want   []api.Mark
	}{
		{1, nil, []api.Mark{mark(0, 0, 0), mark(1, 0, 0), mark(2, 0, 0)}},
		{1, []api.Mark{mark(3, 1, 1), mark(255, 1, 1)}, []api.Mark{mark(0, 0, 0), mark(1, 0, 0), mark(2, 0, 0)}},
		{1, []api.Mark{mark(0, 0, 5)}, []api.Mark{mark(0, 0, 5), mark(1, 0, 0), mark(2, 0, 0)}},
		{1, []api.Mark{mark(0, 0, 0)}, []api.Mark{mark(0, 0, 0), mark(1, 0, 0), mark(2, 0, 0)}},
		{1, []api.Mark{mark(2, 1, 5), mark(2, 1, 4), mark(2, 2, 0), mark(2, 1, 9), mark(1, 1, 1)}, []api.Mark{mark(0, 0, 0), mark(1, 1, 1), mark(2, 2, 0)}},
	} {
		got := stable.Report(base, c.member, c.marks)
		if len(got) != 3 || !slices.Equal(got[1], c.want) || !slices.Equal(got[0], base[0]) || !slices.Equal(got[2], base[2]) {
			t.Error(i, got)
		}
	}
	for _, member := range []uint8{3, 255} {
		if got := stable.Report(base, member, []api.Mark{mark(0, 1, 1)}); !same(got, base) {
			t.Error("no such member", got)
		}
	}
	if got := stable.Report(nil, 0, []api.Mark{mark(0, 1, 1)}); len(got) != 0 {
		t.Error(got)
	}
	// forgotten
	all := base
	for member := range uint8(3) {
		all = stable.Report(all, member, []api.Mark{mark(0, 1, 1), mark(1, 1, 1), mark(2, 1, 1)})
	}
	got := stable.Forget(all, 1)
	if len(got) != 3 || !slices.Equal(got[1], base[1]) || !slices.Equal(got[0], all[0]) || !slices.Equal(got[2], all[2]) {
		t.Error("Forget", got)
	}
	if got := stable.Forget(all, 3); !same(got, all) {
		t.Error("Forget nobody", got)
	}
	if len(stable.Forget(nil, 0)) != 0 {
		t.Error("Forget of nothing")
	}
}

func TestStable(t *testing.T) {
	rows := []api.Row{{}, {Inc: 2, Prefix: 5, Bits: 6}}
	r := stable.Report(stable.New(3), 1, []api.Mark{mark(1, 2, 9), mark(0, 1, 1)})
	gone := alive(1, 1, 1)
	gone[2].State = api.MemLeft
	suspected := alive(1, 1, 1)
	suspected[2].State = api.MemSuspect
	for i, c := range []struct {
		members []api.Member
		self    uint8
		x       api.ID
		want    bool
	}{
		{nil, 0, id(1, 9, 9), true}, {nil, 0, id(2, 1, 1), false}, {nil, 0, id(255, 1, 1), false}, {alive(0, 0, 0), 0, id(0, 1, 1), true},
		{alive(1, 1, 0), 0, id(1, 2, 5), true}, {alive(1, 1, 0), 0, id(1, 2, 6), false}, {alive(1, 1, 0), 0, id(1, 2, 7), false}, {alive(1, 1, 0), 0, id(1, 1, 99), true}, {alive(1, 1, 0), 0, id(1, 3, 0), false},
		{alive(0, 1, 0), 0, id(1, 2, 9), true}, {alive(0, 1, 0), 0, id(1, 2, 10), false}, {alive(0, 1, 0), 1, id(1, 2, 9), false}, {alive(0, 1, 0), 1, id(1, 2, 5), true},
		{alive(1, 1, 1), 0, id(1, 2, 5), false}, {gone, 0, id(1, 2, 5), true}, {suspected, 0, id(1, 2, 5), false}, {alive(1, 1, 0, 1), 0, id(1, 2, 5), false}, {alive(1, 1, 0), 9, id(1, 2, 5), false},
		{alive(1), 0, id(0, 0, 0), true}, {alive(1, 0, 1), 0, id(0, 0, 0), true}, {alive(1), 0, id(0, 0, 1), false}, {alive(1), 0, id(0, 1, 0), false},
	} {
		if got := stable.Stable(r, c.members, c.self, rows, c.x); got != c.want {
			t.Error(i, got)
		}
	}
	if stable.Stable(r, alive(0), 0, nil, id(0, 1, 1)) {
		t.Error("no row")
	}
	left := []api.Member{{Inc: 1, State: api.MemLeft}}
	if !stable.Stable(r, left, 0, rows, id(1, 9, 9)) {
		t.Error("itself does not count")
	}
}

// By the chapter's words; the result of reports does not depend on their order; what is stable stays so.
func TestAtRandom(t *testing.T) {
	r := rand.New(rand.NewSource(1))
	for range 3000 {
		type report struct {
			member uint8
			marks  []api.Mark
		}
		var reports []report
		for range r.Intn(6) {
			var l []api.Mark
			for range r.Intn(4) {
				l = append(l, mark(uint8(r.Intn(4)), uint16(r.Intn(3)), uint32(r.Intn(4))))
			}
			reports = append(reports, report{uint8(r.Intn(4)), l})
		}
		all := func(l []report) api.Reports {
			t := stable.New(3)
			for _, x := range l {
				t = stable.Report(t, x.member, x.marks)
			}
			return t
		}
		got := all(reports)
		r.Shuffle(len(reports), func(i, j int) { reports[i], reports[j] = reports[j], reports[i] })
		if !same(got, all(reports)) {
			t.Fatal("order", reports)
		}
		rows := []api.Row{{Inc: 1, Prefix: uint32(r.Intn(4))}, {Inc: uint16(1 + r.Intn(2))}, {}}[:1+r.Intn(3)]
		members := alive(uint16(r.Intn(2)), uint16(r.Intn(2)), uint16(r.Intn(2)))
		members[r.Intn(3)].State = uint8(r.Intn(4))
		self := uint8(r.Intn(3))
		x := id(uint8(r.Intn(4)), uint16(r.Intn(3)), uint32(r.Intn(4)))
		want := int(x.Node) < len(rows)
		for k, m := range members {
			if !want || m.Inc == 0 || m.State == api.MemLeft {
				continue
			}
			has := stable.Of(got, uint8(k), x.Node)
			if k == int(self) {
				has = seen.Mark(x.Node, rows[x.Node])
			}
			want = has.Inc > x.Inc || has.Inc == x.Inc && has.Seq >= x.Seq
		}
		if is := stable.Stable(got, members, self, rows, x); is != want {
			t.Fatal(got, members, self, rows, x, is)
		}
		more := stable.Report(got, uint8(r.Intn(3)), []api.Mark{mark(x.Node, x.Inc, 9)})
		if want && !stable.Stable(more, members, self, rows, x) {
			t.Fatal("not stable any more", got, more)
		}
	}
}

func TestMemory(t *testing.T) {
	r := stable.Report(stable.New(2), 1, []api.Mark{mark(0, 1, 1)})
	kept := stable.Report(r, 9, nil)
	marks := []api.Mark{mark(1, 1, 1)}
	for i, got := range []api.Reports{stable.Report(r, 1, marks), stable.Report(r, 9, marks), stable.Report(r, 0, nil), stable.Forget(r, 1), stable.Forget(r, 9)} {
		for k := range got {
			for j := range got[k] {
				got[k][j] = mark(9, 9, 9)
			}
			_ = append(got[k], mark(8, 8, 8))
		}
		if !same(r, kept) || marks[0] != mark(1, 1, 1) {
			t.Fatal("shared", i)
		}
	}
	n := stable.New(2)
	n[0][0] = mark(9, 9, 9)
	_ = append(n[0], mark(9, 9, 9))
	if n[1][0] != mark(0, 0, 0) {
		t.Error("rows share memory")
	}
}

// What is no reports brings nothing down.
func TestAnything(t *testing.T) {
	many := make([]api.Member, 300)
	many[299] = api.Member{Inc: 1, State: api.MemAlive}
	for _, odd := range []api.Reports{nil, {nil, {mark(9, 9, 9)}}, {{mark(1, 1, 1)}}} {
		stable.Report(odd, 0, []api.Mark{mark(0, 1, 1), mark(1, 1, 1), mark(9, 9, 9)})
		stable.Forget(odd, 1)
		stable.Stable(odd, many, 0, []api.Row{{}}, id(0, 1, 1))
	}
}
