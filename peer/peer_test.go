package peer_test

import (
	"math"
	"math/rand"
	"slices"
	"testing"

	"grapevine/api"
	"grapevine/desc"
	"grapevine/peer"
	"grapevine/ring"
	"grapevine/stable"
)

func config(nodes int) api.Config {
	return api.Config{
		Nodes: nodes, Schema: api.Schema{{From: 0, To: 9}}, View: 3, Swap: 2, Near: 2, Fanout: 2, Hops: 3,
		Window: 8, Buffer: 4, Pulls: 3, Patience: 3, Suspect: 3, Out: 50, Pool: 100, Last: 20,
	}
}

func span(from, to int32) api.Filter { return api.Filter{{From: from, To: to}} }

func of(node uint8, inc uint16, age uint8, f api.Filter) api.Desc {
	return api.Desc{Node: node, Inc: inc, Age: age, Filter: f}
}

func TestRight(t *testing.T) {
	if !peer.Right(config(2)) || !peer.Right(config(12)) {
		t.Error("right")
	}
	edges := func(name string, least, most int, set func(*api.Config, int)) {
		for x, want := range map[int]bool{least: true, most: true, least - 1: false, most + 1: false, math.MinInt: false, math.MaxInt: false, -1: false} {
			c := config(5)
			c.View, c.Swap = 12, 1
			if set(&c, x); peer.Right(c) != want {
				t.Error(name, x)
			}
		}
	}
	edges("Nodes", 2, 12, func(c *api.Config, x int) { c.Nodes = x })
	edges("View", 1, 12, func(c *api.Config, x int) { c.View = x })
	edges("Swap", 1, 12, func(c *api.Config, x int) { c.Swap = x })
	edges("Near", 0, 12, func(c *api.Config, x int) { c.Near = x })
	edges("Fanout", 0, 12, func(c *api.Config, x int) { c.Fanout = x })
	edges("Hops", 0, 12, func(c *api.Config, x int) { c.Hops = x })
	edges("Window", 1, 64, func(c *api.Config, x int) { c.Window = x })
	edges("Buffer", 1, 64, func(c *api.Config, x int) { c.Buffer = x })
	edges("Pulls", 1, 64, func(c *api.Config, x int) { c.Pulls = x })
	edges("Patience", 1, 255, func(c *api.Config, x int) { c.Patience = x })
	edges("Suspect", 1, 255, func(c *api.Config, x int) { c.Suspect = x })
	edges("Out", 1, 1000, func(c *api.Config, x int) { c.Out = x })
	edges("Pool", 1, 10000, func(c *api.Config, x int) { c.Pool = x })
	for i, set := range []func(*api.Config){
		func(c *api.Config) { c.Swap = 4 }, func(c *api.Config) { c.View = 1 }, func(c *api.Config) { c.Last = 0 },
		func(c *api.Config) { c.Schema = nil }, func(c *api.Config) { c.Schema = api.Schema{{From: 1, To: 0}} }, func(c *api.Config) { c.Schema = make(api.Schema, 5) },
	} {
		c := config(5)
		if set(&c); peer.Right(c) {
			t.Error(i)
		}
	}
	c := config(5)
	for _, last := range []uint32{1, 2, math.MaxUint32} {
		c.Last, c.Swap = last, 3
		if !peer.Right(c) {
			t.Error("at the edges", last)
		}
	}
}

func TestLives(t *testing.T) {
	c := config(3)
	p := peer.New(c, 2)
	if !same(p, empty(c, 2)) {
		t.Error("New", p)
	}
	up, err := peer.Start(c, p)
	want := empty(c, 2)
	want.Inc, want.Up, want.Table[2] = 1, true, api.Member{Inc: 1, State: api.MemAlive}
	if err != api.OK || !same(up, want) {
		t.Error("Start", up, err)
	}
	if got, err := peer.Start(c, up); err != api.ErrUp || !same(got, up) {
		t.Error("twice", got, err)
	}
	up.Filter, up.View, up.Seq, up.Passed, up.Count = span(0, 3), []api.Desc{of(1, 1, 0, nil)}, 5, 3, 9
	down := peer.Down(c, up)
	want = empty(c, 2)
	if want.Inc = 1; !same(down, want) {
		t.Error("Down", down)
	}
	again, err := peer.Start(c, down)
	want.Inc, want.Up, want.Table[2] = 2, true, api.Member{Inc: 2, State: api.MemAlive}
	if err != api.OK || !same(again, want) {
		t.Error("again", again, err)
	}
	down.Inc = api.MaxInc
	if got, err := peer.Start(c, down); err != api.ErrSpent || !same(got, down) {
		t.Error("spent", got, err)
	}
	down.Up = true
	if _, err := peer.Start(c, down); err != api.ErrUp {
		t.Error("first ErrUp", err)
	}
	down.Up, down.Inc = false, api.MaxInc-1
	if got, err := peer.Start(c, down); err != api.OK || got.Inc != api.MaxInc {
		t.Error("the last one", got, err)
	}
}

func TestExamples(t *testing.T) {
	c := config(2)
	zero, _ := peer.Start(c, peer.New(c, 0))
	one, _ := peer.Start(c, peer.New(c, 1))
	l, err := peer.Join(c, one, 0)
	if err != api.OK || !same(l, []api.Message{{Kind: api.KindJoin, From: 1, Inc: 1, To: 0, List: []api.Desc{of(1, 1, 0, nil)}}}) {
		t.Fatal(l, err)
	}
	zero, l = peer.Take(c, zero, l[0], nil)
	table := []api.Member{{Inc: 1, State: api.MemAlive}, {Inc: 1, State: api.MemAlive}}
	if !same(zero.View, []api.Desc{of(1, 1, 0, nil)}) || !same(l, []api.Message{{Kind: api.KindWelcome, From: 0, Inc: 1, To: 1, List: []api.Desc{of(0, 1, 0, nil)}, Table: table}}) {
		t.Fatal(zero, l)
	}
	one, l = peer.Take(c, one, l[0], nil)
	if !same(one.View, []api.Desc{of(0, 1, 0, nil)}) || !same(one.Table, table) || len(l) != 0 {
		t.Fatal(one, l)
	}
	one, l = peer.Tick(c, one, nil)
	var kinds, tos []uint8
	for _, m := range l {
		kinds, tos = append(kinds, m.Kind), append(tos, m.To)
	}
	if !slices.Equal(kinds, []uint8{api.KindShuffle, api.KindNear, api.KindProbe, api.KindBeat}) || !slices.Equal(tos, []uint8{0, 0, 0, 0}) {
		t.Fatal(l)
	}
	if !one.Wait.Some || one.Wait.Node != 0 || one.Wait.Left != 2 || !same(one.Wait.Sent, []api.Desc{of(1, 1, 0, nil)}) {
		t.Fatal(one.Wait)
	}
}

func TestErrors(t *testing.T) {
	c := config(3)
	p := peer.New(c, 1)
	up, _ := peer.Start(c, p)
	if got, err := peer.Want(c, p, span(0, 3)); err != api.ErrDown || !same(got, p) {
		t.Error(got, err)
	}
	if got, err := peer.Want(c, p, make(api.Filter, 2)); err != api.ErrDown || !same(got, p) {
		t.Error("first ErrDown", got, err)
	}
	if got, err := peer.Want(c, up, make(api.Filter, 2)); err != api.ErrFilter || !same(got, up) {
		t.Error(got, err)
	}
	if got, err := peer.Want(c, up, span(-5, 3)); err != api.OK || !same(got.Filter, span(0, 3)) {
		t.Error(got, err)
	}
	if got, err := peer.Want(c, up, span(10, 30)); err != api.OK || len(got.Filter) != 0 {
		t.Error(got, err)
	}
	for _, by := range []uint8{0, 1, 2, 3, 255} {
		if l, err := peer.Join(c, p, by); err != api.ErrDown || len(l) != 0 {
			t.Error(by, l, err)
		}
		l, err := peer.Join(c, up, by)
		if ok := by == 0 || by == 2; ok && (err != api.OK || len(l) != 1 || l[0].To != by) || !ok && (err != api.ErrArg || len(l) != 0) {
			t.Error(by, l, err)
		}
	}
	if got, l, err := peer.Leave(c, p); err != api.ErrDown || !same(got, p) || len(l) != 0 {
		t.Error(got, l, err)
	}
	if got, l, err := peer.Leave(c, up); err != api.OK || !same(got, peer.Down(c, up)) || len(l) != 0 {
		t.Error(got, l, err)
	}
	if got, l := peer.Tick(c, p, nil); !same(got, p) || len(l) != 0 {
		t.Error("a tick of one that is down", got, l)
	}
}

func TestSelfLinksFine(t *testing.T) {
	c := config(5)
	p, _ := peer.Start(c, peer.New(c, 3))
	p, _ = peer.Want(c, p, span(1, 2))
	if got := peer.Self(p); !same(got, of(3, 1, 0, span(1, 2))) || len(peer.Links(p)) != 0 {
		t.Error(got)
	}
	p.View = []api.Desc{of(0, 1, 0, nil), of(4, 1, 0, nil)}
	p.Near = []api.Desc{of(2, 1, 0, nil), of(4, 2, 0, nil)}
	p.Ring = api.Ring{HasPred: true, Pred: of(1, 1, 0, nil)}
	if got := peer.Links(p); !slices.Equal(got, []uint8{0, 1, 2, 4}) {
		t.Error(got)
	}
	p.Ring = api.Ring{HasSucc: true, Succ: of(2, 1, 0, nil)}
	if got := peer.Links(p); !slices.Equal(got, []uint8{0, 2, 4}) {
		t.Error(got)
	}
	l := []api.Desc{of(4, 1, 9, span(3, 9)), of(5, 1, 0, nil), of(0, 0, 0, nil), of(0, 1, 0, nil), of(1, 1, 0, span(3, 10)), of(1, 1, 0, span(4, 3)), of(1, 1, 0, make(api.Filter, 2)), of(3, 7, 7, span(0, 0)), of(255, 1, 0, nil), of(4, 1, 9, span(3, 9))}
	if got := peer.Fine(c, l); !same(got, []api.Desc{l[0], l[3], l[7], l[9]}) {
		t.Error(got)
	}
}

func TestHear(t *testing.T) {
	c := config(3)
	p, _ := peer.Start(c, peer.New(c, 1))
	p.Table[0] = api.Member{Inc: 4, State: api.MemSuspect, Quiet: 7}
	p.Table[2] = api.Member{Inc: 4, State: api.MemLeft, Quiet: 7}
	for member := range uint8(3) {
		p.Reports = stable.Report(p.Reports, member, []api.Mark{{Node: 0, Inc: 1, Seq: 1}})
	}
	for i, c2 := range []struct {
		node   uint8
		inc    uint16
		ok     bool
		member api.Member
		forgot bool
	}{
		{0, 4, true, api.Member{Inc: 4, State: api.MemAlive}, false}, {0, 5, true, api.Member{Inc: 5, State: api.MemAlive}, true}, {0, 3, false, p.Table[0], false}, {0, 0, false, p.Table[0], false},
		{2, 4, false, p.Table[2], false}, {2, 5, true, api.Member{Inc: 5, State: api.MemAlive}, true}, {2, 3, false, p.Table[2], false},
		{1, 9, false, p.Table[1], false}, {3, 9, false, api.Member{}, false}, {255, 9, false, api.Member{}, false},
	} {
		for _, up := range []bool{true, false} {
			q := p
			q.Up = up
			want := peer.Meet(c, q, nil)
			want.View, want.Near, want.Ring = q.View, q.Near, q.Ring
			if c2.ok {
				want.Table[c2.node] = c2.member
			}
			if c2.forgot {
				want.Reports = stable.Forget(want.Reports, c2.node)
			}
			if got, ok := peer.Hear(c, q, c2.node, c2.inc); ok != c2.ok || !same(got, want) {
				t.Error(i, got, ok)
			}
		}
	}
}

// An older descriptor of a node may stay in a view, but the newest one counts; the last list counts for the ring whatever the filter.
func TestMeet(t *testing.T) {
	c := config(6)
	p, _ := peer.Start(c, peer.New(c, 0))
	p, _ = peer.Want(c, p, span(0, 4))
	l := []api.Desc{of(1, 1, 0, span(0, 4)), of(2, 1, 0, span(0, 1)), of(3, 1, 0, span(2, 4)), of(4, 1, 0, span(8, 9)), of(5, 1, 0, nil)}
	got := peer.Meet(c, p, l)
	if !same(got.Near, []api.Desc{l[0], l[2]}) || !same(got.Ring, api.Ring{HasSucc: true, Succ: l[0], HasPred: true, Pred: l[3]}) || len(got.View) != 0 {
		t.Error(got.Near, got.Ring)
	}
	none, _ := peer.Want(c, p, nil)
	got = peer.Meet(c, none, l[:1])
	if len(got.Near) != 0 || !same(got.Ring, api.Ring{HasSucc: true, Succ: l[0], HasPred: true, Pred: l[0]}) {
		t.Error("without a filter", got.Near, got.Ring)
	}
	p.View = []api.Desc{of(1, 1, 3, span(0, 4)), of(2, 1, 0, nil), of(3, 1, 0, nil)}
	p.Table[2] = api.Member{Inc: 1, State: api.MemSuspect}
	p.Table[3] = api.Member{Inc: 2, State: api.MemAlive}
	p.Table[4] = api.Member{Inc: 1, State: api.MemLeft}
	got = peer.Meet(c, p, append([]api.Desc{of(4, 1, 0, span(0, 4)), of(0, 9, 0, span(0, 4)), of(5, 1, 0, span(0, 4))}, of(9, 1, 0, nil)))
	if !same(got.View, p.View[:1]) || !same(got.Near, []api.Desc{of(1, 1, 3, span(0, 4)), of(5, 1, 0, span(0, 4))}) {
		t.Error("what is not current", got.View, got.Near)
	}
	next := peer.Meet(c, got, []api.Desc{of(1, 1, 0, span(9, 9))})
	if !same(next.View, p.View[:1]) || !same(next.Near, []api.Desc{of(5, 1, 0, span(0, 4))}) {
		t.Error("the newest one counts", next.View, next.Near)
	}
	down := got
	down.Up = false
	if down = peer.Meet(c, down, l); !slices.Equal(peer.Links(down), peer.Links(peer.Meet(c, got, l))) {
		t.Error("up or not")
	}
}

// cluster is some peers, and what they sent each other.
type cluster struct {
	r     *rand.Rand
	c     api.Config
	peers []api.Peer
	pool  []api.Message
}

func newCluster(r *rand.Rand) *cluster {
	k := &cluster{r: r, c: config(2 + r.Intn(5))}
	k.c.View = 1 + r.Intn(4)
	k.c.Swap = 1 + r.Intn(k.c.View)
	k.c.Near, k.c.Suspect = r.Intn(4), 1+r.Intn(4)
	for node := range k.c.Nodes {
		p := peer.New(k.c, uint8(node))
		if r.Intn(8) == 0 {
			p.Inc = api.MaxInc - 1
		}
		k.peers = append(k.peers, p)
	}
	return k
}

func (k *cluster) filter() api.Filter {
	switch k.r.Intn(8) {
	case 0:
		return nil
	case 1:
		return make(api.Filter, 2)
	}
	from := int32(k.r.Intn(12) - 1)
	return span(from, from+int32(k.r.Intn(6)-1))
}

func (k *cluster) desc() api.Desc {
	return of(uint8(k.r.Intn(k.c.Nodes+1)), uint16(k.r.Intn(4)), uint8(k.r.Intn(4)), k.filter())
}

func (k *cluster) descs(most int) []api.Desc {
	var l []api.Desc
	for range k.r.Intn(most + 1) {
		l = append(l, k.desc())
	}
	return l
}

// forged is a message that nobody sent.
func (k *cluster) forged() api.Message {
	m := api.Message{Kind: uint8(k.r.Intn(14)), From: uint8(k.r.Intn(k.c.Nodes + 1)), Inc: uint16(k.r.Intn(4)), To: uint8(k.r.Intn(k.c.Nodes)), List: k.descs(4)}
	if k.r.Intn(2) == 0 && len(m.List) > 0 {
		m.List = m.List[:1]
		m.List[0].Node, m.List[0].Inc = m.From, m.Inc
	}
	m.Table = make([]api.Member, k.r.Intn(k.c.Nodes+3))
	for i := range m.Table {
		if inc := uint16(k.r.Intn(4)); inc > 0 {
			m.Table[i] = api.Member{Inc: inc, State: uint8(1 + k.r.Intn(3)), Quiet: uint8(k.r.Intn(5))}
		}
	}
	return m
}

func (k *cluster) draws() []uint32 {
	l := make([]uint32, k.r.Intn(k.c.Swap+3))
	for i := range l {
		l[i] = k.r.Uint32()
	}
	return l
}

// step does one thing with one peer, as the program does it, and as the chapter says.
func (k *cluster) step(t *testing.T) {
	i := k.r.Intn(len(k.peers))
	p := k.peers[i]
	o := &oracle{c: k.c, p: p, draws: k.draws()}
	var got api.Peer
	var sent []api.Message
	meets := p.Up
	switch k.r.Intn(16) {
	case 0, 1, 2, 3:
		got, sent = peer.Tick(k.c, p, o.draws)
		o.tick()
	case 4:
		f := k.filter()
		var err api.Errno
		got, err = peer.Want(k.c, p, f)
		if err == api.OK {
			o.p.Filter = nil
			if len(f) == 1 && f[0].From <= f[0].To && f[0].To >= 0 && f[0].From <= 9 {
				o.p.Filter = span(max(f[0].From, 0), min(f[0].To, 9))
			}
			o.meet(nil)
		}
		if p.Up != (err != api.ErrDown) || p.Up && (len(f) == 2) != (err == api.ErrFilter) {
			t.Fatal("Want", f, err)
		}
		meets = err == api.OK
	case 5:
		var err api.Errno
		got, err = peer.Start(k.c, p)
		if !p.Up && p.Inc < api.MaxInc {
			o.p = empty(k.c, p.Node)
			o.p.Inc, o.p.Up = p.Inc+1, true
			o.p.Table[p.Node] = api.Member{Inc: p.Inc + 1, State: api.MemAlive}
		}
		if (err == api.OK) != (!p.Up && p.Inc < api.MaxInc) {
			t.Fatal("Start", err)
		}
		meets = false
	case 6:
		var err api.Errno
		if got, sent, err = peer.Leave(k.c, p); err == api.OK {
			for _, link := range o.links() {
				o.send(api.Message{Kind: api.KindLeave, To: link})
			}
			o.p = empty(k.c, p.Node)
			o.p.Inc = p.Inc
		}
		meets = false
	case 7, 8:
		by := uint8(k.r.Intn(k.c.Nodes))
		l, err := peer.Join(k.c, p, by)
		if (err == api.OK) != (p.Up && by != p.Node) {
			t.Fatal("Join", err)
		}
		got, sent = p, l
		if err == api.OK {
			o.send(api.Message{Kind: api.KindJoin, To: by, List: []api.Desc{o.self()}})
		}
		meets = false
	case 9:
		l := k.descs(5)
		got = peer.Meet(k.c, p, l)
		o.meet(l)
		meets = true
	default:
		m := k.forged()
		if len(k.pool) > 0 && k.r.Intn(4) > 0 {
			at := k.r.Intn(len(k.pool))
			m = k.pool[at]
			k.pool = slices.Delete(k.pool, at, at+1)
			i = int(m.To)
			p = k.peers[i]
			o.p = p
		}
		got, sent = peer.Take(k.c, p, m, o.draws)
		was := o.p.Table
		meets = p.Up && m.To == p.Node && o.hear(m.From, m.Inc)
		o.p = p
		_ = was
		o.take(m)
	}
	if !same(got, o.p) || !same(sent, o.out) {
		t.Fatalf("\n%+v\n%+v\nwant\n%+v\n%+v\nof\n%+v", got, sent, o.p, o.out, p)
	}
	k.check(t, p, got, meets)
	k.peers[i] = got
	k.pool = append(k.pool, sent...)
}

// check tells whether what always holds does.
func (k *cluster) check(t *testing.T, was, p api.Peer, meets bool) {
	if was.Up && p.Up && was.Inc == p.Inc {
		for n, m := range p.Table {
			if m.Inc < was.Table[n].Inc {
				t.Fatal("an incarnation fell", was, p)
			}
		}
	}
	if !meets {
		return
	}
	if !desc.Right(p.View, p.Node, k.c.View) || !desc.Right(p.Near, p.Node, k.c.Near) || !desc.Right(ring.List(p.Ring), p.Node, 2) {
		t.Fatal("no view", p)
	}
	for _, d := range slices.Concat(p.View, p.Near, ring.List(p.Ring)) {
		if m := p.Table[d.Node]; d.Inc < m.Inc || d.Inc == m.Inc && m.State != api.MemAlive {
			t.Fatal("not current", d, p)
		}
	}
}

func TestAtRandom(t *testing.T) {
	r := rand.New(rand.NewSource(1))
	for range 150 {
		k := newCluster(r)
		for range 150 {
			k.step(t)
		}
	}
}

// Take does nothing for whom it is not, or of whom it does not hear.
func TestTakeNothing(t *testing.T) {
	c := config(3)
	p, _ := peer.Start(c, peer.New(c, 1))
	p.Table[2] = api.Member{Inc: 3, State: api.MemLeft}
	p.View = []api.Desc{of(2, 3, 0, nil)} // would be dropped by any meeting
	join := func(from uint8, inc uint16, to uint8) api.Message {
		return api.Message{Kind: api.KindJoin, From: from, Inc: inc, To: to, List: []api.Desc{of(from, inc, 0, nil)}}
	}
	for i, m := range []api.Message{join(0, 1, 0), join(0, 1, 2), join(0, 0, 1), join(1, 1, 1), join(3, 1, 1), join(2, 3, 1), join(2, 2, 1), {Kind: api.KindLeave, From: 2, Inc: 2, To: 1}} {
		if got, l := peer.Take(c, p, m, nil); !same(got, p) || len(l) != 0 {
			t.Error(i, got, l)
		}
	}
	down := peer.Down(c, p)
	if got, l := peer.Take(c, down, join(0, 1, 1), nil); !same(got, down) || len(l) != 0 {
		t.Error("down", got, l)
	}
	for _, kind := range []uint8{0, 10, 11, 12, 13, 255} {
		got, l := peer.Take(c, p, api.Message{Kind: kind, From: 0, Inc: 1, To: 1, List: []api.Desc{of(0, 1, 0, nil)}, Hops: 3}, nil)
		if got.Table[0] != (api.Member{Inc: 1, State: api.MemAlive}) || len(got.View) != 0 || len(l) != 0 || len(peer.Links(got)) != 0 {
			t.Error("a kind of another layer is heard of alone", kind, got, l)
		}
	}
}

// Arguments that are not as they should be bring nothing down.
func TestAnything(t *testing.T) {
	for _, c := range []api.Config{{}, {Nodes: -5, View: -5, Swap: -5, Near: -5}, {Nodes: math.MaxInt, Swap: math.MaxInt, View: math.MaxInt, Near: math.MaxInt, Schema: make(api.Schema, 9)}, config(12)} {
		odd := []api.Desc{of(200, 1, 1, make(api.Filter, 9)), of(1, 0, 0, span(3, 1)), of(1, 5, 0, nil)}
		for _, p := range []api.Peer{{}, {Up: true}, {Up: true, Node: 200, View: odd, Near: odd, Ring: api.Ring{HasSucc: true, Pred: odd[0]}, Table: make([]api.Member, 300), Wait: api.Wait{Some: true, Sent: odd}}, peer.New(c, 99)} {
			peer.Right(c)
			q, _ := peer.Start(c, p)
			for _, p := range []api.Peer{p, q} {
				peer.Down(c, p)
				peer.Self(p)
				peer.Links(p)
				peer.Fine(c, odd)
				peer.Meet(c, p, odd)
				peer.Want(c, p, odd[0].Filter)
				peer.Join(c, p, 3)
				peer.Leave(c, p)
				peer.Tick(c, p, []uint32{5, 5, 5})
				for kind := range uint8(14) {
					for node := range uint8(14) {
						peer.Hear(c, p, node, 1)
						peer.Take(c, p, api.Message{Kind: kind, From: node, Inc: 1, To: p.Node, List: odd[node%3:], Table: make([]api.Member, 20)}, []uint32{1})
					}
				}
			}
		}
	}
}
