package node_test

import (
	"fmt"
	"math"
	"math/rand"
	"slices"
	"testing"

	"grapevine/api"
	"grapevine/buffer"
	"grapevine/node"
	"grapevine/peer"
	"grapevine/pull"
	"grapevine/seen"
)

func config(nodes int) api.Config {
	return api.Config{
		Nodes: nodes, Schema: api.Schema{{From: 0, To: 9}}, View: 3, Swap: 2, Near: 2, Fanout: 2, Hops: 3,
		Window: 8, Buffer: 4, Pulls: 3, Patience: 3, Suspect: 3, Out: 50, Pool: 100, Last: 20,
	}
}

func span(from, to int32) api.Filter { return api.Filter{{From: from, To: to}} }

func id(node uint8, inc uint16, seq uint32) api.ID {
	return api.ID{Node: node, Inc: inc, Seq: seq}
}

func of(node uint8, inc uint16, seq uint32, val int32) api.Event {
	return api.Event{ID: id(node, inc, seq), Vals: []int32{val}, Data: []byte{byte(seq)}}
}

// up is a peer that wants all, and knows the nodes that are named.
func up(c api.Config, self uint8, links ...uint8) api.Peer {
	p, _ := peer.Start(c, peer.New(c, self))
	p, _ = peer.Want(c, p, span(0, 9))
	for _, link := range links {
		p.View = append(p.View, api.Desc{Node: link, Inc: 1})
		p, _ = peer.Hear(c, p, link, 1)
	}
	return peer.Meet(c, p, nil)
}

func pushed(from, to uint8, e api.Event, hops uint8) api.Message {
	return api.Message{Kind: api.KindPush, From: from, Inc: 1, To: to, Event: e, Hops: hops}
}

func TestExamples(t *testing.T) {
	c := config(3)
	c.Buffer = 1
	p := up(c, 0)
	p, e, wanted, l, err := node.Publish(c, p, []int32{5}, []byte("a"), nil)
	if err != api.OK || !wanted || len(l) != 0 || !same(e, api.Event{ID: id(0, 1, 1), Vals: []int32{5}, Data: []byte("a")}) {
		t.Fatal(e, wanted, l, err)
	}
	q, e, wanted, l, err := node.Publish(c, p, []int32{5}, nil, nil)
	if err != api.ErrFull || wanted || len(l) != 0 || !same(e, api.Event{}) || !same(q, p) {
		t.Fatal(e, wanted, l, err)
	}
	p, l, d := node.Take(c, p, pushed(1, 0, of(1, 1, 1, 3), 0), nil)
	if len(l) != 0 || !same(d, []api.Event{of(1, 1, 1, 3)}) || p.Passed != 1 || buffer.Has(p.Buffer, id(1, 1, 1)) || !seen.Has(p.Rows[1], id(1, 1, 1)) {
		t.Fatal(p, l, d)
	}
	again, l, d := node.Take(c, p, pushed(1, 0, of(1, 1, 1, 3), 0), nil)
	if len(l) != 0 || len(d) != 0 || !same(again, p) {
		t.Fatal("again", l, d)
	}
	_, l, d = node.Take(c, p, api.Message{Kind: api.KindPull, From: 1, Inc: 1, To: 0, IDs: []api.ID{id(0, 1, 1), id(1, 1, 1)}}, nil)
	want := api.Event{ID: id(0, 1, 1), Vals: []int32{5}, Data: []byte("a")}
	if len(d) != 0 || !same(l, []api.Message{{Kind: api.KindPush, From: 0, Inc: 1, To: 1, Event: want}}) {
		t.Fatal(l, d)
	}
}

func TestPublish(t *testing.T) {
	c := config(4)
	c.Last, c.Buffer = 3, 2
	p := up(c, 0, 1, 2, 3)
	for i, x := range []struct {
		vals []int32
		data []byte
	}{{nil, nil}, {[]int32{10}, nil}, {[]int32{-1}, nil}, {[]int32{1, 1}, nil}, {[]int32{1}, make([]byte, 65)}} {
		if q, e, ok, l, err := node.Publish(c, p, x.vals, x.data, nil); err != api.ErrEvent || ok || len(l) != 0 || !same(e, api.Event{}) || !same(q, p) {
			t.Error(i, e, ok, l, err)
		}
	}
	down := peer.Down(c, p)
	if q, _, _, _, err := node.Publish(c, down, nil, nil, nil); err != api.ErrDown || !same(q, down) {
		t.Error("first ErrDown", err)
	}
	p, _, _ = node.Accept(c, p, of(1, 1, 1, 1))
	p, _, _ = node.Accept(c, p, of(2, 1, 1, 1))
	q, e, ok, l, err := node.Publish(c, p, []int32{9}, make([]byte, 64), []uint32{9, 9, 9, 1, 1})
	if err != api.OK || !ok || q.Evicted != 1 || !slices.Equal(buffer.IDs(q.Buffer), []api.ID{id(0, 1, 1), id(2, 1, 1)}) || q.Seq != 1 || q.Rows[0] != (api.Row{Inc: 1, Prefix: 1}) {
		t.Error(q, err)
	}
	if len(l) != 2 || l[0].To != 2 || l[1].To != 3 || l[0].Hops != 3 || !same(l[0].Event, e) || l[0].Kind != api.KindPush {
		t.Error("pushed by the draws behind the first Swap + 1", l)
	}
	if _, _, _, l, _ := node.Publish(c, p, []int32{9}, nil, nil); len(l) != 2 || l[0].To != 1 || l[1].To != 2 {
		t.Error("without draws", l)
	}
	q, _, _, _, _ = node.Publish(c, q, []int32{9}, nil, nil)
	if q.Evicted != 2 || q.Seq != 2 {
		t.Error(q)
	}
	if r, _, _, _, err := node.Publish(c, q, []int32{9}, nil, nil); err != api.ErrFull || !same(r, q) {
		t.Error(err)
	}
	q.Seq = 3
	if r, _, _, _, err := node.Publish(c, q, []int32{9}, nil, nil); err != api.ErrSpent || !same(r, q) {
		t.Error("ErrSpent before ErrFull", err)
	}
	if _, _, _, _, err := node.Publish(c, q, []int32{10}, nil, nil); err != api.ErrEvent {
		t.Error("ErrEvent before ErrSpent", err)
	}
	none, _ := peer.Want(c, p, nil)
	if _, _, ok, _, err := node.Publish(c, none, []int32{9}, nil, nil); ok || err != api.OK {
		t.Error("not wanted", ok, err)
	}
}

func TestAccept(t *testing.T) {
	c := config(3)
	p := up(c, 1)
	p.Inc, p.Table[1].Inc = 3, 3
	p, _ = peer.Want(c, p, span(2, 5))
	p.Rows[0] = api.Row{Inc: 2, Prefix: 4, Bits: 2}
	for _, x := range []api.ID{id(0, 1, 1), id(0, 2, 5), id(0, 2, 9), id(2, 1, 1)} {
		p.Pulls = append(p.Pulls, api.Ask{ID: x, From: 2, Left: 2})
	}
	for i, x := range []struct {
		e             api.Event
		ok, delivered bool
	}{
		{of(0, 2, 5, 3), true, true}, {of(0, 2, 5, 6), true, false}, {of(0, 2, 4, 3), false, false}, {of(0, 2, 6, 3), false, false}, {of(0, 2, 12, 3), true, true}, {of(0, 2, 13, 3), false, false}, {of(0, 1, 9, 3), false, false}, {of(0, 3, 1, 3), true, true}, {of(0, 3, 9, 3), false, false},
		{of(0, 2, 5, 10), false, false}, {of(2, 1, 20, 3), false, false}, {of(3, 1, 1, 3), false, false}, {of(0, 0, 1, 3), false, false}, {of(2, 1, 0, 3), false, false},
		{of(1, 3, 1, 3), false, false}, {of(1, 4, 1, 3), false, false}, {of(1, 2, 1, 3), true, true}, {of(1, 65535, 1, 3), false, false},
		{api.Event{ID: id(2, 1, 1), Vals: []int32{3}, Data: make([]byte, 65)}, false, false}, {api.Event{ID: id(2, 1, 1)}, false, false},
	} {
		o := &oracle{c: c, p: p}
		o.accept(x.e)
		if q, ok, d := node.Accept(c, p, x.e); ok != x.ok || d != x.delivered || !same(q, o.p) {
			t.Error(i, ok, d, q)
		}
		if q, ok, d := node.Accept(c, peer.Down(c, p), x.e); ok || d || !same(q, peer.Down(c, p)) {
			t.Error(i, "down", ok, d)
		}
	}
	q, _, _ := node.Accept(c, p, of(0, 2, 5, 3))
	if !slices.Equal(q.Pulls, p.Pulls[2:]) || q.Rows[0] != (api.Row{Inc: 2, Prefix: 6}) {
		t.Error("asks, and the row", q.Pulls, q.Rows)
	}
	c.Last = 4
	if _, ok, _ := node.Accept(c, p, of(0, 2, 5, 3)); ok {
		t.Error("above Last")
	}
}

// A stale link is gone before and after a message; who is not heard of changes nothing.
func TestTakeNothing(t *testing.T) {
	c := config(3)
	p := up(c, 1)
	p.Table[2] = api.Member{Inc: 3, State: api.MemLeft}
	p.View = []api.Desc{{Node: 2, Inc: 3}}
	for kind := range uint8(14) {
		for i, m := range []api.Message{{From: 0, Inc: 1, To: 0}, {From: 0, Inc: 0, To: 1}, {From: 1, Inc: 1, To: 1}, {From: 3, Inc: 1, To: 1}, {From: 2, Inc: 3, To: 1}} {
			m.Kind, m.Event, m.Hops, m.Origin, m.IDs = kind, of(0, 1, 1, 1), 3, api.Mark{Node: 0, Inc: 1, Seq: 1}, []api.ID{id(0, 1, 1)}
			if q, l, d := node.Take(c, p, m, nil); !same(q, p) || len(l) != 0 || len(d) != 0 {
				t.Error(kind, i, l, d)
			}
		}
	}
	q, l, d := node.Take(c, p, api.Message{Kind: api.KindPull, From: 0, Inc: 1, To: 1}, nil)
	if len(q.View) != 0 || q.Table[0].Inc != 1 || len(l) != 0 || len(d) != 0 {
		t.Error("heard, and met", q)
	}
}

func TestDigest(t *testing.T) {
	c := config(5)
	c.Pulls = 2
	p := up(c, 1, 0, 3)
	m := api.Message{
		Kind: api.KindDigest, From: 0, Inc: 1, To: 1, Hops: 2, Origin: api.Mark{Node: 2, Inc: 1, Seq: 4},
		Table: []api.Member{{}, {}, {}, {}, {Inc: 7, State: api.MemAlive}}, Marks: []api.Mark{{Node: 2, Inc: 1, Seq: 9}, {Node: 4, Inc: 1, Seq: 1}},
		IDs: []api.ID{id(2, 1, 21), id(0, 1, 1), id(2, 1, 3), id(2, 1, 3), id(4, 1, 1)},
	}
	q, l, d := node.Take(c, p, m, nil)
	if len(d) != 0 || q.Heard[2] != m.Origin || q.Table[4].Inc != 7 || q.Table[2].Inc != 1 || q.Reports[2][4] != m.Marks[1] || q.Reports[2][2] != m.Marks[0] {
		t.Error(q)
	}
	if !slices.Equal(q.Pulls, []api.Ask{{ID: id(0, 1, 1), From: 2, Left: 3}, {ID: id(2, 1, 3), From: 2, Left: 3}}) {
		t.Error(q.Pulls)
	}
	forwarded := m
	forwarded.From, forwarded.To, forwarded.Hops = 1, 3, 1
	if !same(l, []api.Message{{Kind: api.KindPull, From: 1, Inc: 1, To: 2, IDs: []api.ID{id(0, 1, 1), id(2, 1, 3)}}, forwarded}) {
		t.Error(l)
	}
	if r, l, _ := node.Take(c, q, m, nil); len(l) != 0 || !same(r, q) {
		t.Error("again", l)
	}
	low := c
	low.Last = 2
	if _, l, _ := node.Take(low, p, m, nil); len(l) != 2 || !slices.Equal(l[0].IDs, []api.ID{id(0, 1, 1), id(4, 1, 1)}) {
		t.Error("above Last", l)
	}
	m.Hops = 0
	if _, l, _ := node.Take(c, p, m, nil); len(l) != 1 || l[0].Kind != api.KindPull {
		t.Error("no hops left", l)
	}
	for i, origin := range []api.Mark{{Node: 1, Inc: 9, Seq: 9}, {Node: 5, Inc: 1, Seq: 1}, {Node: 2, Inc: 0, Seq: 9}, {Node: 3, Inc: 0, Seq: 1}} {
		m.Origin = origin
		if r, l, _ := node.Take(c, p, m, nil); len(l) != 0 || !same(r.Heard, p.Heard) || r.Table[4].Inc != 0 {
			t.Error(i, l)
		}
	}
}

// cluster is some peers, what they sent each other, and what was published.
type cluster struct {
	r         *rand.Rand
	c         api.Config
	peers     []api.Peer
	pool      []api.Message
	published []api.Event
	delivered map[[2]int]map[api.ID]int // by node and incarnation
}

func newCluster(r *rand.Rand) *cluster {
	k := &cluster{r: r, c: config(2 + r.Intn(4)), delivered: map[[2]int]map[api.ID]int{}}
	k.c.View = 1 + r.Intn(4)
	k.c.Swap = 1 + r.Intn(k.c.View)
	k.c.Near, k.c.Fanout, k.c.Hops = r.Intn(3), r.Intn(3), r.Intn(4)
	k.c.Window, k.c.Buffer, k.c.Pulls = 1+r.Intn(6), 1+r.Intn(4), 1+r.Intn(3)
	k.c.Last = uint32(2 + r.Intn(15))
	for node := range k.c.Nodes {
		p, _ := peer.Start(k.c, peer.New(k.c, uint8(node)))
		k.peers = append(k.peers, p)
	}
	return k
}

// forged is a message that nobody sent.
func (k *cluster) forged() api.Message {
	r := k.r
	node := func() uint8 { return uint8(r.Intn(k.c.Nodes + 1)) }
	some := func() api.ID { return id(node(), uint16(r.Intn(3)), uint32(r.Intn(8))) }
	e := of(node(), uint16(r.Intn(4)), uint32(r.Intn(8)), int32(r.Intn(11)))
	m := api.Message{Kind: uint8(9 + r.Intn(5)), From: node(), Inc: uint16(r.Intn(3)), To: uint8(r.Intn(k.c.Nodes)), Hops: uint8(r.Intn(3)), Event: e, Origin: api.Mark{Node: node(), Inc: uint16(r.Intn(3)), Seq: uint32(r.Intn(9))}}
	for range r.Intn(6) {
		m.IDs = append(m.IDs, some())
		x := some()
		m.Marks = append(m.Marks, api.Mark{Node: x.Node, Inc: x.Inc, Seq: x.Seq})
	}
	m.Table = make([]api.Member, r.Intn(k.c.Nodes+2))
	for i := range m.Table {
		if inc := uint16(r.Intn(3)); inc > 0 {
			m.Table[i] = api.Member{Inc: inc, State: uint8(1 + r.Intn(3)), Quiet: uint8(r.Intn(5))}
		}
	}
	return m
}

func (k *cluster) draws() []uint32 {
	l := make([]uint32, k.r.Intn(k.c.Swap+k.c.Fanout+3))
	for i := range l {
		l[i] = k.r.Uint32()
	}
	return l
}

// step does one thing with one peer, as the program does it, and as the chapter says.
func (k *cluster) step(t *testing.T, forge bool) {
	i := k.r.Intn(len(k.peers))
	p := k.peers[i]
	o := &oracle{c: k.c, p: p, draws: k.draws()}
	var got api.Peer
	var sent []api.Message
	switch k.r.Intn(12) {
	case 0, 1:
		got, sent = node.Tick(k.c, p, o.draws)
		o.tick()
	case 2, 3:
		vals, data := []int32{int32(k.r.Intn(11))}, []byte{byte(k.r.Intn(9))}
		var e api.Event
		var wanted bool
		var err api.Errno
		got, e, wanted, sent, err = node.Publish(k.c, p, vals, data, o.draws)
		e2, wanted2, err2 := o.publish(vals, data)
		if !same(e, e2) || wanted != wanted2 || err != err2 {
			t.Fatal("Publish", e, wanted, err, e2, wanted2, err2)
		}
		if err == api.OK {
			k.published = append(k.published, e)
		}
		if wanted {
			k.log(t, p, e)
		}
	case 4:
		got = k.another(p)
		o.p = got
	case 5:
		by := k.r.Intn(len(k.peers))
		sent, _ = peer.Join(k.c, p, uint8(by))
		got, o.out = p, sent
	default:
		var m api.Message
		switch {
		case len(k.pool) > 0 && (!forge || k.r.Intn(3) > 0):
			at := k.r.Intn(len(k.pool))
			m = k.pool[at]
			if k.r.Intn(6) > 0 {
				k.pool = slices.Delete(k.pool, at, at+1)
			}
		case forge:
			m = k.forged()
		}
		i = int(m.To)
		p = k.peers[i]
		o.p = p
		var d []api.Event
		got, sent, d = node.Take(k.c, p, m, o.draws)
		o.take(m)
		if !same(d, o.delivered) {
			t.Fatal("delivered", d, o.delivered)
		}
		for _, e := range d {
			k.log(t, p, e)
		}
	}
	if !same(got, o.p) || !same(sent, o.out) {
		t.Fatalf("\n%+v\n%+v\nwant\n%+v\n%+v\nof\n%+v", got, sent, o.p, o.out, p)
	}
	k.check(t, p, got)
	k.peers[i] = got
	k.pool = append(k.pool, sent...)
	if len(k.pool) > 60 {
		k.pool = k.pool[len(k.pool)-60:]
	}
}

// another is p with another filter, or in another life.
func (k *cluster) another(p api.Peer) api.Peer {
	switch {
	case !p.Up:
		p, _ = peer.Start(k.c, p)
	case k.r.Intn(6) == 0:
		p = peer.Down(k.c, p)
	default:
		from := int32(k.r.Intn(8))
		p, _ = peer.Want(k.c, p, span(from, from+5))
	}
	return p
}

func (k *cluster) log(t *testing.T, p api.Peer, e api.Event) {
	life := [2]int{int(p.Node), int(p.Inc)}
	if k.delivered[life] == nil {
		k.delivered[life] = map[api.ID]int{}
	}
	k.delivered[life][e.ID]++
	if k.delivered[life][e.ID] > 1 {
		t.Fatal("delivered twice", p, e)
	}
	if f := p.Filter; len(f) != 1 || e.Vals[0] < f[0].From || e.Vals[0] > f[0].To {
		t.Fatal("not wanted", p, e)
	}
}

// check tells whether what always holds does.
func (k *cluster) check(t *testing.T, was, p api.Peer) {
	if !buffer.Right(p.Buffer) || p.Buffer.Room != k.c.Buffer || !pull.Right(p.Pulls, k.c.Pulls) {
		t.Fatal("bounds", p)
	}
	for _, r := range p.Rows {
		if !seen.Right(r, k.c.Window) {
			t.Fatal("a row", p)
		}
	}
	if !was.Up || !p.Up || was.Inc != p.Inc {
		return
	}
	for _, e := range was.Buffer.Events {
		if own := e.ID.Node == p.Node && e.ID.Inc == p.Inc; own && !buffer.Has(p.Buffer, e.ID) && p.Collected == was.Collected {
			t.Fatal("an own event is gone", was, p)
		}
	}
}

func TestAtRandom(t *testing.T) {
	r := rand.New(rand.NewSource(1))
	for i := range 250 {
		k := newCluster(r)
		for range 200 {
			k.step(t, i%2 == 0)
		}
		if i%2 == 1 {
			k.compare(t)
		}
	}
}

// compare tells whether what was delivered was published, where nothing was forged.
func (k *cluster) compare(t *testing.T) {
	known := map[api.ID]api.Event{}
	for _, e := range k.published {
		known[e.ID] = e
	}
	for _, l := range k.delivered {
		for x := range l {
			if _, ok := known[x]; !ok {
				t.Fatal("not published", x)
			}
		}
	}
}

func TestMemory(t *testing.T) {
	r := rand.New(rand.NewSource(2))
	for range 60 {
		k := newCluster(r)
		for range 100 {
			k.step(t, true)
			p, m, draws := k.peers[r.Intn(len(k.peers))], k.forged(), k.draws()
			m.To = p.Node
			if len(k.pool) > 0 && r.Intn(2) == 0 {
				m = k.pool[r.Intn(len(k.pool))]
				p = k.peers[m.To]
			}
			vals, data := []int32{3, 77, 77}[:1], []byte{3, 77, 77}[:1]
			args := []any{k.c, p, m, draws, vals, data}
			before := fmt.Sprint(args...)
			var results [][]any
			add := func(x ...any) { results = append(results, x) }
			q, e, wanted, s, err := node.Publish(k.c, p, vals, data, draws)
			add(q, e, wanted, s, err)
			q, ok, d := node.Accept(k.c, p, m.Event)
			add(q, ok, d)
			q, s, l := node.Take(k.c, p, m, draws)
			add(q, s, l)
			other := m
			other.To++
			q, s, l = node.Take(k.c, p, other, draws)
			add(q, s, l)
			q, s = node.Tick(k.c, p, draws)
			add(q, s)
			if fmt.Sprint(args...) != before || data[:3][1] != 77 || vals[:3][1] != 77 {
				t.Fatal("an argument changed", before, args)
			}
			for i, x := range results {
				if shared(x, args) {
					t.Fatal("shared", i, x)
				}
			}
		}
	}
}

// The count of digests does not wrap.
func TestCount(t *testing.T) {
	c := config(2)
	p := up(c, 0, 1)
	p.Count = math.MaxUint32 - 1
	for range 2 {
		var l []api.Message
		if p, l = node.Tick(c, p, nil); p.Count != math.MaxUint32 || l[len(l)-1].Origin != (api.Mark{Node: 0, Inc: 1, Seq: math.MaxUint32}) {
			t.Error(p.Count, l)
		}
	}
	down := peer.Down(c, p)
	if q, l := node.Tick(c, down, nil); !same(q, down) || len(l) != 0 {
		t.Error("down", l)
	}
}

// Arguments that are not as they should be bring nothing down.
func TestAnything(t *testing.T) {
	for _, c := range []api.Config{{}, {Nodes: -5, Swap: -5, Fanout: -1}, {Nodes: math.MaxInt, Swap: math.MaxInt, Fanout: math.MaxInt, Pulls: math.MaxInt, Patience: -1, Window: 99, Schema: make(api.Schema, 9), Last: 9}, config(12)} {
		for _, p := range []api.Peer{{}, {Up: true}, {Up: true, Node: 200, Table: make([]api.Member, 300), Pulls: make([]api.Ask, 3), Buffer: api.Buffer{Room: -1, Events: make([]api.Event, 3)}}, peer.New(c, 99)} {
			q, _ := peer.Start(c, p)
			for _, p := range []api.Peer{p, q} {
				node.Publish(c, p, []int32{1}, nil, []uint32{1})
				node.Publish(c, p, nil, make([]byte, 99), nil)
				node.Tick(c, p, []uint32{5, 5, 5})
				for kind := range uint8(14) {
					for from := range uint8(14) {
						node.Accept(c, p, of(from, 1, 1, 1))
						node.Take(c, p, api.Message{Kind: kind, From: from, Inc: 1, To: p.Node, Hops: 3, Event: of(from, 1, 1, 1), Origin: api.Mark{Node: from, Inc: 1, Seq: 1}, IDs: []api.ID{id(1, 1, 1), {}, id(200, 1, 1)}}, []uint32{1})
					}
				}
			}
		}
	}
}
