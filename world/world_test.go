package world_test

import (
	"encoding/binary"
	"fmt"
	"hash/crc32"
	"math"
	"math/rand"
	"slices"
	"testing"

	"grapevine/api"
	"grapevine/buffer"
	"grapevine/filter"
	"grapevine/mesg"
	"grapevine/net"
	"grapevine/node"
	"grapevine/peer"
	"grapevine/world"
)

func config(nodes int) api.Config {
	return api.Config{
		Nodes: nodes, Schema: api.Schema{{From: 0, To: 9}}, View: 3, Swap: 2, Near: 2, Fanout: 2, Hops: 3,
		Window: 8, Buffer: 4, Pulls: 3, Patience: 3, Suspect: 3, Out: 50, Pool: 100, Last: 20,
	}
}

func span(from, to int32) api.Filter { return api.Filter{{From: from, To: to}} }

func step(kind, node uint8) api.Step { return api.Step{Kind: kind, Node: node} }

func at(kind uint8, i int) api.Step { return api.Step{Kind: kind, At: i} }

func want(node uint8, from, to int32) api.Step {
	return api.Step{Kind: api.StepSubscribe, Node: node, Filter: span(from, to)}
}

func publish(node uint8, val int32) api.Step {
	return api.Step{Kind: api.StepPublish, Node: node, Vals: []int32{val}, Data: []byte{byte(val), 7}}
}

func join(node, by uint8) api.Step { return api.Step{Kind: api.StepJoin, Node: node, Other: by} }

// same compares all that a and b have; empty lists are the same, nil or not.
func same(a, b any) bool {
	return fmt.Sprint(a) == fmt.Sprint(b)
}

func begin(t *testing.T, c api.Config, nums []uint32, l ...api.Step) api.World {
	t.Helper()
	w, err := world.New(c, nums)
	if err != api.OK {
		t.Fatal(err)
	}
	w, answers := world.Run(w, l)
	for i, a := range answers {
		if a.Err != api.OK {
			t.Fatal(i, a.Err)
		}
	}
	return w
}

func TestNew(t *testing.T) {
	c := config(3)
	w, err := world.New(c, []uint32{5, 6})
	if err != api.OK || !same(w.Config, c) || len(w.Peers) != 3 || !same(w.Net, api.Net{Room: 100}) || !same(w.Tape, api.Tape{Nums: []uint32{5, 6}}) || len(w.Events)+len(w.Log)+w.Lost != 0 {
		t.Error(w, err)
	}
	for i, p := range w.Peers {
		if !same(p, peer.New(c, uint8(i))) {
			t.Error(i, p)
		}
	}
	for _, nodes := range []int{1, 13, 0, -1, math.MaxInt} {
		if w, err := world.New(config(nodes), nil); err != api.ErrArg || !same(w, api.World{}) {
			t.Error(nodes, err)
		}
	}
	c.Swap = 4
	if w, err := world.New(c, nil); err != api.ErrArg || !same(w, api.World{}) {
		t.Error(err)
	}
}

func TestExamples(t *testing.T) {
	w := begin(t, config(2), nil, step(api.StepStart, 0), step(api.StepStart, 1), join(1, 0))
	if len(w.Net.L) != 1 || w.Net.L[0].To != 0 {
		t.Fatal(w.Net)
	}
	w, a := world.Do(w, at(api.StepDeliver, 0))
	if !same(a, api.Answer{}) || len(w.Net.L) != 1 || w.Net.L[0].To != 1 {
		t.Fatal(w.Net, a)
	}
	w, _ = world.Run(w, []api.Step{at(api.StepDeliver, 0), want(1, 0, 9)})
	w, a = world.Do(w, publish(0, 5))
	e := api.Event{ID: api.ID{Node: 0, Inc: 1, Seq: 1}, Vals: []int32{5}, Data: []byte{5, 7}}
	if !same(a, api.Answer{ID: e.ID}) || !same(w.Events, []api.Event{e}) || len(w.Log) != 0 {
		t.Fatal(a)
	}
	w, a = world.Do(w, at(api.StepDeliver, 0))
	d := api.Delivery{Node: 1, Inc: 1, Event: e}
	if !same(a, api.Answer{Some: true, Delivery: d}) || !same(w.Log, []api.Delivery{d}) {
		t.Fatal(a)
	}
	if v, a := world.Do(w, at(api.StepDeliver, 0)); !same(a, api.Answer{Err: api.ErrArg}) || !same(v, w) {
		t.Fatal(a)
	}
	w, _ = world.Run(w, []api.Step{step(api.StepTick, 0), {Kind: api.StepBend, Turns: 1}})
	v, a := world.Do(w, at(api.StepDeliver, 0))
	w.Net.L = w.Net.L[1:]
	if !same(a, api.Answer{Err: api.ErrSum}) || !same(v, w) {
		t.Fatal("it is gone, and nothing else happened", a)
	}
}

func TestErrors(t *testing.T) {
	w := begin(t, config(3), []uint32{1, 2, 3}, step(api.StepStart, 0), step(api.StepStart, 1), join(0, 1), want(0, 0, 9))
	spent := w
	spent.Peers = slices.Clone(w.Peers)
	spent.Peers[2].Inc = api.MaxInc
	full := w
	for range 4 {
		full, _ = world.Do(full, publish(0, 1))
	}
	for i, c := range []struct {
		w   api.World
		s   api.Step
		err api.Errno
	}{
		{w, api.Step{}, api.ErrStep}, {w, step(14, 0), api.ErrStep}, {w, step(255, 99), api.ErrStep},
		{w, step(api.StepTick, 3), api.ErrArg}, {w, step(api.StepTick, 2), api.ErrDown}, {w, want(3, 0, 9), api.ErrArg}, {w, want(2, 0, 9), api.ErrDown}, {w, api.Step{Kind: api.StepSubscribe, Filter: make(api.Filter, 2)}, api.ErrFilter}, {w, api.Step{Kind: api.StepSubscribe, Node: 2, Filter: make(api.Filter, 2)}, api.ErrDown},
		{w, step(api.StepUnsubscribe, 3), api.ErrArg}, {w, step(api.StepUnsubscribe, 2), api.ErrDown}, {w, publish(3, 1), api.ErrArg}, {w, publish(2, 10), api.ErrDown}, {w, publish(0, 10), api.ErrEvent}, {full, publish(0, 1), api.ErrFull}, {w, join(3, 0), api.ErrArg}, {w, join(2, 9), api.ErrDown}, {w, join(0, 3), api.ErrArg}, {w, join(0, 0), api.ErrArg}, {w, join(0, 255), api.ErrArg},
		{w, step(api.StepLeave, 3), api.ErrArg}, {w, step(api.StepLeave, 2), api.ErrDown}, {w, step(api.StepCrash, 255), api.ErrArg}, {w, step(api.StepCrash, 2), api.ErrDown}, {w, step(api.StepStart, 3), api.ErrArg}, {w, step(api.StepStart, 0), api.ErrUp}, {spent, step(api.StepStart, 2), api.ErrSpent},
		{w, at(api.StepDeliver, 1), api.ErrArg}, {w, at(api.StepDeliver, -1), api.ErrArg}, {w, at(api.StepDrop, 1), api.ErrArg}, {w, at(api.StepDouble, 1), api.ErrArg}, {w, at(api.StepBend, 1), api.ErrArg}, {w, api.Step{Kind: api.StepBend, From: -1, Turns: 1}, api.ErrArg}, {w, at(api.StepBend, 0), api.ErrArg}, {w, at(api.StepMove, 1), api.ErrArg}, {w, api.Step{Kind: api.StepMove, To: 1}, api.ErrArg},
	} {
		if v, a := world.Do(c.w, c.s); !same(a, api.Answer{Err: c.err}) || !same(v, c.w) {
			t.Error(i, a)
		}
	}
	// what a frame comes to that cannot be taken
	for i, c := range []struct {
		to    uint8
		frame []byte
		err   api.Errno
	}{{2, []byte{1, 2, 3}, api.ErrSum}, {0, sealed(t, 9), api.ErrWire}, {0, sealed(t, 0), api.ErrMesg}, {2, sealed(t, 1), api.ErrDown}} {
		v := w
		v.Net = net.Send(w.Net, c.to, c.frame)
		if got, a := world.Do(v, at(api.StepDeliver, 1)); !same(a, api.Answer{Err: c.err}) || !same(got, w) {
			t.Error(i, a)
		}
	}
}

// sealed is the frame of a KindLeave, in that incarnation; 9 is one that has a byte too many.
func sealed(t *testing.T, inc uint16) []byte {
	b := []byte{9, 1, 0, byte(inc), 2}
	if inc == 9 {
		b = append(b, 0)
	}
	n := net.Send(api.Net{Room: 1}, 0, seal(b))
	return n.L[0].B
}

func TestEffects(t *testing.T) {
	c := config(3)
	w := begin(t, c, []uint32{4, 5, 6}, step(api.StepStart, 0), step(api.StepStart, 1), join(1, 0), at(api.StepDeliver, 0), at(api.StepDeliver, 0))
	if w.Tape.At != 10%3 {
		t.Error("two deliveries have drawn", w.Tape)
	}
	check := func(what string, s api.Step, change func(*api.World)) api.World {
		t.Helper()
		before := fmt.Sprint(w)
		v := w
		v.Peers = slices.Clone(w.Peers)
		change(&v)
		got, a := world.Do(w, s)
		if !same(got, v) || a.Err != api.OK || a.ID != (api.ID{}) || a.Some {
			t.Errorf("%s: %+v\n%+v\nwant\n%+v", what, a, got, v)
		}
		if fmt.Sprint(w) != before {
			t.Error(what, "the world before changed")
		}
		return got
	}
	draws := []uint32{5, 6, 4, 5, 6}
	send := func(v *api.World, l []api.Message) {
		for _, m := range l {
			b, _ := mesg.Bytes(m)
			v.Net = net.Send(v.Net, m.To, b)
		}
	}
	w = check("tick", step(api.StepTick, 0), func(v *api.World) {
		var l []api.Message
		v.Peers[0], l = node.Tick(c, v.Peers[0], draws)
		v.Tape.At = 0
		send(v, l)
	})
	check("leave", step(api.StepLeave, 1), func(v *api.World) {
		v.Peers[1] = peer.Down(c, v.Peers[1])
		send(v, []api.Message{{Kind: api.KindLeave, From: 1, Inc: 1, To: 0}})
	})
	check("crash", step(api.StepCrash, 1), func(v *api.World) { v.Peers[1] = peer.Down(c, v.Peers[1]) })
	check("start", step(api.StepStart, 2), func(v *api.World) { v.Peers[2], _ = peer.Start(c, v.Peers[2]) })
	check("join", join(0, 2), func(v *api.World) {
		l, _ := peer.Join(c, v.Peers[0], 2)
		send(v, l)
	})
	w = check("subscribe", want(1, -3, 4), func(v *api.World) { v.Peers[1], _ = peer.Want(c, v.Peers[1], span(0, 4)) })
	check("unsubscribe", step(api.StepUnsubscribe, 1), func(v *api.World) { v.Peers[1], _ = peer.Want(c, v.Peers[1], nil) })
	check("drop", at(api.StepDrop, 1), func(v *api.World) { v.Net, _ = net.Lose(v.Net, 1) })
	check("double", at(api.StepDouble, 1), func(v *api.World) { v.Net, _ = net.Double(v.Net, 1) })
	check("bend", api.Step{Kind: api.StepBend, At: 1, From: 9, Turns: 5}, func(v *api.World) { v.Net, _ = net.Bend(v.Net, 1, 9, 5) })
	check("move", api.Step{Kind: api.StepMove, At: 2, To: 0}, func(v *api.World) { v.Net, _ = net.Move(v.Net, 2, 0) })
	check("deliver", at(api.StepDeliver, 1), func(v *api.World) {
		p, rest, _ := net.Take(v.Net, 1)
		m, _ := mesg.Parse(p.B)
		var l []api.Message
		v.Peers[p.To], l, _ = node.Take(c, v.Peers[p.To], m, []uint32{4, 5, 6, 4, 5})
		v.Net, v.Tape.At = rest, 2
		send(v, l)
	})
	got, a := world.Do(w, publish(1, 3))
	p, e, ok, l, _ := node.Publish(c, w.Peers[1], []int32{3}, []byte{3, 7}, []uint32{4, 5, 6, 4, 5})
	v := w
	v.Peers = slices.Clone(w.Peers)
	v.Peers[1], v.Tape.At, v.Events, v.Log = p, 2, []api.Event{e}, []api.Delivery{{Node: 1, Inc: 1, Event: e}}
	send(&v, l)
	if !same(got, v) || !ok || !same(a, api.Answer{ID: e.ID, Some: true, Delivery: v.Log[0]}) {
		t.Error("publish", a)
	}
}

// What an outbox, or the net, has no room for is counted.
func TestLost(t *testing.T) {
	c := config(4)
	c.Out, c.Pool = 2, 3
	w := begin(t, c, nil, step(api.StepStart, 0), step(api.StepStart, 1), join(1, 0), at(api.StepDeliver, 0), at(api.StepDeliver, 0), step(api.StepTick, 0))
	_, l := node.Tick(c, begin(t, c, nil, step(api.StepStart, 0), step(api.StepStart, 1), join(1, 0), at(api.StepDeliver, 0), at(api.StepDeliver, 0)).Peers[0], make([]uint32, 5))
	if len(w.Net.L) != 2 || w.Lost != len(l)-2 || w.Net.Lost != 0 || w.Lost < 3 {
		t.Error(len(w.Net.L), w.Lost, w.Net.Lost)
	}
	first, _ := mesg.Bytes(l[0])
	second, _ := mesg.Bytes(l[1])
	if !same(w.Net.L, []api.Parcel{{To: 1, B: first}, {To: 1, B: second}}) {
		t.Error("the first ones go", w.Net.L)
	}
	lost := w.Lost
	w, _ = world.Do(w, step(api.StepTick, 0))
	if len(w.Net.L) != 3 || w.Net.Lost != 1 || w.Lost <= lost {
		t.Error(len(w.Net.L), w.Lost, w.Net.Lost)
	}
}

// random is a step that may be possible, or not.
func random(r *rand.Rand, w api.World) api.Step {
	node := func() uint8 { return uint8(r.Intn(len(w.Peers) + 1)) }
	index := func() int { return r.Intn(len(w.Net.L)+2) - 1 }
	s := api.Step{Kind: uint8(r.Intn(15)), Node: node(), Other: node(), At: index(), To: index(), From: r.Intn(200) - 1, Turns: 1 << r.Intn(32)}
	if r.Intn(2) == 0 {
		s.Kind = api.StepDeliver
	}
	if (s.Kind == api.StepLeave || s.Kind == api.StepCrash) && r.Intn(3) > 0 {
		s.Kind = api.StepPublish
	}
	s.Filter = span(int32(r.Intn(5)), int32(r.Intn(14)))
	s.Vals, s.Data = []int32{int32(r.Intn(11))}, []byte{byte(r.Intn(256))}
	return s
}

// check tells whether what always holds does.
func check(t *testing.T, before, w api.World, s api.Step, a api.Answer) {
	c := w.Config
	if len(w.Net.L) > c.Pool || w.Net.Room != c.Pool {
		t.Fatal("the net")
	}
	for _, p := range w.Peers {
		if !buffer.Right(p.Buffer) || len(p.Pulls) > c.Pulls || len(p.View) > c.View || len(p.Near) > c.Near {
			t.Fatal("bounds", p)
		}
	}
	for _, d := range w.Log[len(before.Log):] {
		if !slices.ContainsFunc(w.Events, func(e api.Event) bool { return same(e, d.Event) }) {
			t.Fatal("delivered, and not published", d)
		}
		p := before.Peers[d.Node]
		if !p.Up || p.Inc != d.Inc || !filter.Match(p.Filter, d.Event.Vals) || !a.Some || !same(a.Delivery, d) {
			t.Fatal("not wanted", d, p)
		}
		for _, x := range before.Log {
			if x.Node == d.Node && x.Inc == d.Inc && x.Event.ID == d.Event.ID {
				t.Fatal("delivered twice", d)
			}
		}
	}
	if a.Some != (len(w.Log) == len(before.Log)+1) || len(w.Log) > len(before.Log)+1 {
		t.Fatal("the log, and the answer", a)
	}
	if s.Kind == api.StepDeliver && s.At >= 0 && s.At < len(before.Net.L) && before.Net.L[s.At].Bent && a.Err == api.OK {
		t.Fatal("a corrupted frame was accepted")
	}
	if a.Err == api.OK {
		return
	}
	if s.Kind == api.StepDeliver && a.Err != api.ErrArg {
		before.Net, _ = net.Lose(before.Net, s.At)
	}
	if !same(w, before) || !same(a, api.Answer{Err: a.Err}) {
		t.Fatal("an error that changed something", s, a)
	}
}

func TestAtRandom(t *testing.T) {
	r := rand.New(rand.NewSource(1))
	published, delivered := 0, 0
	for range 60 {
		c := config(2 + r.Intn(4))
		c.Buffer, c.Pulls, c.Out, c.Pool = 1+r.Intn(4), 1+r.Intn(3), 3+r.Intn(30), 5+r.Intn(40)
		nums := make([]uint32, r.Intn(20))
		for i := range nums {
			nums[i] = r.Uint32()
		}
		start := begin(t, c, nums, step(api.StepStart, 0), step(api.StepStart, 1), join(1, 0), want(0, 0, 9), want(1, 2, 9))
		w := start
		var steps []api.Step
		var answers []api.Answer
		for range 250 {
			s := random(r, w)
			next, a := world.Do(w, s)
			check(t, w, next, s, a)
			w = next
			steps, answers = append(steps, s), append(answers, a)
		}
		if v, l := world.Run(start, steps); !same(v, w) || !same(l, answers) {
			t.Fatal("step by step, and all at once")
		}
		published, delivered = published+len(w.Events), delivered+len(w.Log)
	}
	if published < 100 || delivered < 100 {
		t.Error("nothing happened", published, delivered)
	}
}

// A world stays as it is, whatever becomes of it in several ways.
func TestMemory(t *testing.T) {
	r := rand.New(rand.NewSource(2))
	nums, c := []uint32{1, 2, 3}, config(3)
	w, _ := world.New(c, nums)
	nums[0], c.Schema[0].To = 99, 99
	if w.Tape.Nums[0] != 1 || w.Config.Schema[0].To != 9 {
		t.Error("New keeps what it was given")
	}
	for _, s := range []api.Step{step(api.StepStart, 0), step(api.StepStart, 1), join(1, 0), want(0, 0, 9), want(1, 2, 9)} {
		w, _ = world.Do(w, s)
	}
	for range 150 {
		before := fmt.Sprint(w)
		var next api.World
		var nexts []api.World
		var texts []string
		for range 6 {
			s := random(r, w)
			if r.Intn(2) == 0 {
				s.Kind, s.Vals[0] = api.StepPublish, int32(r.Intn(10))
			}
			asked := fmt.Sprint(s)
			next, _ = world.Do(w, s)
			nexts, texts = append(nexts, next), append(texts, fmt.Sprint(next))
			if fmt.Sprint(s) != asked {
				t.Fatal("the step changed", s)
			}
			after := fmt.Sprint(next)
			s.Filter[0].From, s.Vals[0], s.Data[0] = 99, 99, 99
			if fmt.Sprint(next) != after {
				t.Fatal("the step is kept", s)
			}
		}
		for i, x := range nexts {
			if fmt.Sprint(x) != texts[i] {
				t.Fatal("what becomes of a world changes what else may become of it")
			}
		}
		if fmt.Sprint(w) != before {
			t.Fatal("the world before changed")
		}
		w = next
	}
}

// Worlds that nobody made bring nothing down.
func TestAnything(t *testing.T) {
	odd := api.World{Config: config(5), Peers: []api.Peer{{Node: 77, Up: true}, {Up: true}}, Net: api.Net{L: []api.Parcel{{To: 99}, {To: 200, B: seal([]byte{9, 1, 0, 1, 2})}}}, Tape: api.Tape{At: -7, Nums: []uint32{3}}}
	huge := odd
	huge.Config = api.Config{Nodes: math.MaxInt, Swap: math.MaxInt, Fanout: math.MaxInt, Out: -1}
	for _, w := range []api.World{{}, odd, huge} {
		for kind := range uint8(16) {
			for _, node := range []uint8{0, 1, 2, 255} {
				world.Do(w, api.Step{Kind: kind, Node: node, Other: node, At: int(node % 3), To: 1, From: 3, Turns: 9, Filter: span(5, 1), Vals: []int32{1}})
			}
		}
	}
	world.New(huge.Config, nil)
}

func seal(b []byte) []byte {
	return binary.LittleEndian.AppendUint32(slices.Clone(b), crc32.Checksum(b, crc32.MakeTable(crc32.Castagnoli)))
}
