package player_test

import (
	"encoding/hex"
	"fmt"
	"math"
	"math/rand"
	"reflect"
	"strconv"
	"strings"
	"testing"

	"grapevine/api"
	"grapevine/fair"
	"grapevine/mesg"
	"grapevine/model"
	"grapevine/peer"
	"grapevine/player"
	"grapevine/script"
	"grapevine/trace"
	"grapevine/world"
)

func TestConfig(t *testing.T) {
	for _, nodes := range []int{2, 12, 0, -1, 999999999} {
		want := api.Config{Nodes: nodes, Schema: api.Schema{{From: 0, To: 9}, {From: 0, To: 99}}, View: 4, Swap: 2, Near: 3, Fanout: 3, Hops: 4, Window: 16, Buffer: 16, Pulls: 8, Patience: 5, Suspect: 6, Out: 100, Pool: 1000, Last: 1000}
		if got := player.Config(nodes); !reflect.DeepEqual(got, want) {
			t.Error(got)
		}
	}
	player.Config(2).Schema[0].To = 5
	if player.Config(2).Schema[0].To != 9 {
		t.Error("a schema that is shared")
	}
}

func filter(l ...int32) api.Filter {
	return api.Filter{{From: l[0], To: l[1]}, {From: l[2], To: l[3]}}
}

// same compares all that a and b have; empty lists are the same, nil or not.
func same(a, b any) bool {
	return fmt.Sprint(a) == fmt.Sprint(b)
}

func TestRead(t *testing.T) {
	step := func(s api.Step) api.Typed { return api.Typed{What: s.Kind, Step: s} }
	fifty := strings.TrimSpace(strings.Repeat("7 ", 50))
	nums := []int{12}
	for range 50 {
		nums = append(nums, 7)
	}
	for line, want := range map[string]api.Typed{
		"tick 3": step(api.Step{Kind: api.StepTick, Node: 3}), "unwant 255": step(api.Step{Kind: api.StepUnsubscribe, Node: 255}), "leave 0": step(api.Step{Kind: api.StepLeave}), "crash 10": step(api.Step{Kind: api.StepCrash, Node: 10}), "start 1": step(api.Step{Kind: api.StepStart, Node: 1}),
		"deliver 256": step(api.Step{Kind: api.StepDeliver, At: 256}), "drop 999999999": step(api.Step{Kind: api.StepDrop, At: 999999999}), "double 0": step(api.Step{Kind: api.StepDouble}), "move 1 2": step(api.Step{Kind: api.StepMove, At: 1, To: 2}),
		"bend 1 2 3": step(api.Step{Kind: api.StepBend, At: 1, From: 2, Turns: 3}), "bend 999999999 999999999 999999999": step(api.Step{Kind: api.StepBend, At: 999999999, From: 999999999, Turns: 999999999}),
		"want 1 -2 3 -999999999 999999999": step(api.Step{Kind: api.StepSubscribe, Node: 1, Filter: filter(-2, 3, -999999999, 999999999)}), "want 0 9 0 0 0": step(api.Step{Kind: api.StepSubscribe, Filter: filter(9, 0, 0, 0)}),
		"publish 1 -2 3 hi": step(api.Step{Kind: api.StepPublish, Node: 1, Vals: []int32{-2, 3}, Data: []byte("hi")}), "publish 0 0 0  ": step(api.Step{Kind: api.StepPublish, Vals: []int32{0, 0}, Data: []byte(" ")}), "publish 0 0 0  a b\n\x00\xff ": step(api.Step{Kind: api.StepPublish, Vals: []int32{0, 0}, Data: []byte(" a b\n\x00\xff ")}),
		"publish 0 1 1 " + strings.Repeat("x", 100): step(api.Step{Kind: api.StepPublish, Vals: []int32{1, 1}, Data: []byte(strings.Repeat("x", 100))}), "publish 0 1 1 7": step(api.Step{Kind: api.StepPublish, Vals: []int32{1, 1}, Data: []byte("7")}),
		"join 1 2": step(api.Step{Kind: api.StepJoin, Node: 1, Other: 2}), "join 255 255": step(api.Step{Kind: api.StepJoin, Node: 255, Other: 255}),
		"world 2": {What: api.TypedWorld, Nums: []int{2}}, "world 0 999999999 0": {What: api.TypedWorld, Nums: []int{0, 999999999, 0}}, "world 12 " + fifty: {What: api.TypedWorld, Nums: nums},
		"script 0a": {What: api.TypedScript, Data: []byte{10}}, "script 00ff9a0f": {What: api.TypedScript, Data: []byte{0, 255, 154, 15}}, "round": {What: api.TypedRound}, "pool": {What: api.TypedPool}, "log": {What: api.TypedLog}, "owed": {What: api.TypedOwed},
		"frame 5": {What: api.TypedFrame, Nums: []int{5}}, "peer 999999999": {What: api.TypedPeer, Nums: []int{999999999}}, "reach 256": {What: api.TypedReach, Nums: []int{256}},
	} {
		if got, err := player.Read(line); err != api.OK || !same(got, want) {
			t.Errorf("%q: %+v %d", line, got, err)
		}
	}
	for _, line := range []string{
		"", " ", "x", "tick", "tick ", "tick  1", " tick 1", "tick 1 ", "tick 1 2", "tick 01", "tick 00", "tick -1", "tick +1", "tick 1x", "tick 256", "tick 1000000000", "tick 99999999999999999999", "Tick 1", "tick\t1", "tick 1\n", "tick 1\r", "ticks 1", "tick ٣",
		"unwant", "leave x", "crash", "start 256", "deliver", "deliver -1", "deliver 1 2", "drop 01", "double", "double 1000000000", "move 1", "move 1 2 3", "move 1  2", "move 1 -2", "bend 1 2", "bend 1 2 3 4", "bend -1 2 3", "bend 1 2 -3", "bend 1 2 4294967295",
		"want", "want 1", "want 1 2 3 4", "want 1 2 3 4 5 6", "want -1 0 1 0 1", "want 256 0 1 0 1", "want 1 -0 1 0 1", "want 1 0 -01 0 1", "want 1 0 1 - 1", "want 1 0 1 0 --1", "want 1 0 1 0 1000000000", "want 1 0 1 0 -1000000000", "want 1 0 1 0 ",
		"publish 0 1 1", "publish 0 1 1 ", "publish 0 1 x", "publish 0  1 1 x", "publish -1 1 1 x", "publish 256 1 1 x", "publish 0 01 1 x", "publish 0 1 -0 x", "publish", "join 1", "join 1 256", "join 256 1", "join 1 2 3", "join 1 -2",
		"world", "world ", "world -2", "world 2 ", "world 2 x", "world 2  5", "world 2 -5", "world 2 05", "world 12 7 " + fifty, "world 12 " + fifty + " ", "script", "script ", "script 0", "script 0d0", "script 0g", "script 0D", "script 0a 0b", "script 0a ", "script  0a", "script g0", "script 0x0a",
		"round 1", "round ", "rounds", "pool 0", "pool ", "log ", "log 1", "owed x", "frame", "frame -1", "frame 1 2", "frame x", "frame 01", "peer", "peer -1", "peer 1 1", "reach", "reach 01", "reach 1 ",
	} {
		if got, err := player.Read(line); err != api.ErrTyped || !same(got, api.Typed{}) {
			t.Errorf("%q: %+v %d", line, got, err)
		}
		if text, err := player.New().Do(line); err != api.ErrTyped || text != "" {
			t.Errorf("first ErrTyped: %q: %q %d", line, text, err)
		}
	}
}

func TestNil(t *testing.T) {
	var none *player.Player
	for i, p := range []*player.Player{none, {}, new(player.Player)} {
		for _, line := range []string{"world 2", "tick 01", "pool", ""} {
			if text, err := p.Do(line); text != "" || err != api.ErrNil {
				t.Error(i, line, text, err)
			}
		}
		if got := p.Run("world 2\n\nstart 0\nx"); got != "world 2\nok\nerror 310\n" {
			t.Errorf("%d: %q", i, got)
		}
	}
}

func TestShut(t *testing.T) {
	p := player.New()
	for _, line := range []string{"tick 0", "deliver 0", "want 0 0 1 0 1", "publish 0 1 1 x", "join 0 1", "script 0d00", "round", "pool", "frame 0", "peer 0", "log", "owed", "reach 0"} {
		if text, err := p.Do(line); text != "" || err != api.ErrShut {
			t.Error(line, text, err)
		}
	}
	for _, line := range []string{"world 1", "world 13", "world 0", "world 999999999"} {
		if text, err := p.Do(line); text != "error 2" || err != api.OK {
			t.Error(line, text, err)
		}
	}
	if _, err := p.Do("pool"); err != api.ErrShut {
		t.Error("still no world", err)
	}
	p.Do("world 2")
	p.Do("start 0")
	if text, err := p.Do("world 1"); text != "error 2" || err != api.OK {
		t.Error(text, err)
	}
	if text, _ := p.Do("peer 0"); text != "up 1" {
		t.Error("the world stays", text)
	}
	if text, _ := p.Do("world 3 1 2"); text != "world 3" {
		t.Error(text)
	}
	if text, _ := p.Do("peer 0"); text != "down 0" {
		t.Error("another world", text)
	}
}

func TestRun(t *testing.T) {
	p := player.New()
	for script, want := range map[string]string{
		"": "", "\n": "", "\n\n\n": "", "world 2": "world 2\n", "world 2\n": "world 2\n", "\nworld 2\n\n\npool": "world 2\npool 0 lost 0 and 0\n", "pool\nworld 2\npool": "error 311\nworld 2\npool 0 lost 0 and 0\n", " \nworld 2": "error 310\nworld 2\n", "world 2\r\nworld 3": "error 310\nworld 3\n",
	} {
		if got := p.Run(script); got != want {
			t.Errorf("%q: %q", script, got)
		}
	}
	p.Do("world 2")
	p.Do("start 0")
	if got := p.Run("pool"); got != "error 311\n" {
		t.Error("a new player", got)
	}
	if text, _ := p.Do("peer 0"); text != "up 1" {
		t.Error("this one is not touched", text)
	}
	if got := player.New().Run("pool"); got != "error 311\n" {
		t.Error(got)
	}
}

func join(l []string) string {
	if len(l) == 0 {
		return "none"
	}
	return strings.Join(l, ", ")
}

// watch is a player, and the world that it must have.
type watch struct {
	p *player.Player
	w api.World
}

func errText(err api.Errno) string { return "error " + strconv.Itoa(int(err)) }

// step does a step as a line and in the world, and compares.
func (k *watch) step(t *testing.T, line string, s api.Step) {
	t.Helper()
	next, a := world.Do(k.w, s)
	k.w = next
	want := "ok"
	if a.Err != api.OK {
		want = errText(a.Err)
	} else if s.Kind == api.StepPublish {
		want += fmt.Sprintf(" id %d %d %d", a.ID.Node, a.ID.Inc, a.ID.Seq)
	}
	if e := a.Delivery.Event.ID; a.Some {
		want += fmt.Sprintf(" got %d %d %d %d", a.Delivery.Node, e.Node, e.Inc, e.Seq)
	}
	if text, err := k.p.Do(line); text != want || err != api.OK {
		t.Fatalf("%q: %q %d, want %q", line, text, err, want)
	}
}

// asks compares all that asks, and tells whether it changes nothing.
func (k *watch) asks(t *testing.T) {
	t.Helper()
	ask := func(line, want string) {
		t.Helper()
		for range 2 {
			if text, err := k.p.Do(line); text != want || err != api.OK {
				t.Fatalf("%q: %q %d, want %q", line, text, err, want)
			}
		}
	}
	ask("pool", fmt.Sprintf("pool %d lost %d and %d", len(k.w.Net.L), k.w.Net.Lost, k.w.Lost))
	for at := range len(k.w.Net.L) + 2 {
		want := "none"
		if at < len(k.w.Net.L) {
			m, err := mesg.Parse(k.w.Net.L[at].B)
			if want = errText(err); err == api.OK {
				want = fmt.Sprintf("%d %d %d", m.Kind, m.From, m.To)
			}
		}
		ask(fmt.Sprintf("frame %d", at), want)
	}
	for at := range len(k.w.Peers) + 2 {
		peers, reach := "none", "none"
		if at < len(k.w.Peers) {
			p := k.w.Peers[at]
			peers = map[bool]string{true: "up", false: "down"}[p.Up] + fmt.Sprintf(" %d", p.Inc)
			for _, link := range peer.Links(p) {
				peers += fmt.Sprintf(" %d", link)
			}
			var l []string
			for _, node := range fair.Reach(k.w, uint8(at)) {
				l = append(l, strconv.Itoa(int(node)))
			}
			if len(l) > 0 {
				reach = strings.Join(l, " ")
			}
		}
		ask(fmt.Sprintf("peer %d", at), peers)
		ask(fmt.Sprintf("reach %d", at), reach)
	}
	var log, owed []string
	for _, d := range k.w.Log {
		log = append(log, fmt.Sprintf("%d %d %d %d %d", d.Node, d.Inc, d.Event.ID.Node, d.Event.ID.Inc, d.Event.ID.Seq))
	}
	for _, g := range model.Owed(trace.Model(k.w)) {
		owed = append(owed, fmt.Sprintf("%d %d %d %d %d", g.Node, g.Inc, g.ID.Node, g.ID.Inc, g.ID.Seq))
	}
	ask("log", join(log))
	ask("owed", join(owed))
	ask("peer 256", "none")
	ask("reach 256", "none")
	ask("reach 999999999", "none")
	ask("frame 999999999", "none")
}

// random is a step that is right for a script, and its line.
func random(r *rand.Rand, w api.World) (string, api.Step) {
	n := func() uint8 { return uint8(r.Intn(len(w.Peers))) }
	at := func() int { return r.Intn(len(w.Net.L) + 1) }
	switch kind := uint8(1 + r.Intn(19)); kind {
	case api.StepTick, api.StepUnsubscribe, api.StepStart:
		s := api.Step{Kind: kind, Node: n()}
		return fmt.Sprintf("%s %d", map[uint8]string{1: "tick", 8: "unwant", 13: "start"}[kind], s.Node), s
	case api.StepLeave, api.StepCrash:
		s := api.Step{Kind: kind, Node: n()}
		if r.Intn(4) > 0 {
			s.Kind = api.StepStart
		}
		return fmt.Sprintf("%s %d", map[uint8]string{11: "leave", 12: "crash", 13: "start"}[s.Kind], s.Node), s
	case api.StepDrop, api.StepDouble:
		s := api.Step{Kind: kind, At: at()}
		return fmt.Sprintf("%s %d", map[uint8]string{3: "drop", 4: "double"}[kind], s.At), s
	case api.StepBend:
		s := api.Step{Kind: kind, At: at(), From: r.Intn(300), Turns: uint32(r.Intn(999999999))}
		return fmt.Sprintf("bend %d %d %d", s.At, s.From, s.Turns), s
	case api.StepMove:
		s := api.Step{Kind: kind, At: at(), To: at()}
		return fmt.Sprintf("move %d %d", s.At, s.To), s
	case api.StepSubscribe:
		s := api.Step{Kind: kind, Node: n(), Filter: filter(int32(r.Intn(6)-1), int32(r.Intn(12)), int32(r.Intn(40)-5), int32(r.Intn(120)))}
		return fmt.Sprintf("want %d %d %d %d %d", s.Node, s.Filter[0].From, s.Filter[0].To, s.Filter[1].From, s.Filter[1].To), s
	case api.StepPublish, 14, 15:
		s := api.Step{Kind: api.StepPublish, Node: n(), Vals: []int32{int32(r.Intn(12) - 1), int32(r.Intn(100))}, Data: []byte("a b")}
		return fmt.Sprintf("publish %d %d %d a b", s.Node, s.Vals[0], s.Vals[1]), s
	case api.StepJoin:
		s := api.Step{Kind: kind, Node: n(), Other: n()}
		return fmt.Sprintf("join %d %d", s.Node, s.Other), s
	}
	s := api.Step{Kind: api.StepDeliver, At: at()}
	return fmt.Sprintf("deliver %d", s.At), s
}

func TestAtRandom(t *testing.T) {
	r := rand.New(rand.NewSource(1))
	delivered := 0
	for range 30 {
		nodes := 2 + r.Intn(4)
		k := &watch{p: player.New()}
		k.w, _ = world.New(player.Config(nodes), []uint32{3, 999999999, 11})
		if text, err := k.p.Do(fmt.Sprintf("world %d 3 999999999 11", nodes)); text != fmt.Sprintf("world %d", nodes) || err != api.OK {
			t.Fatal(text, err)
		}
		for node := range uint8(nodes) {
			k.step(t, fmt.Sprintf("start %d", node), api.Step{Kind: api.StepStart, Node: node})
			k.step(t, fmt.Sprintf("want %d 0 9 0 99", node), api.Step{Kind: api.StepSubscribe, Node: node, Filter: filter(0, 9, 0, 99)})
		}
		for i := range 150 {
			line, s := random(r, k.w)
			k.step(t, line, s)
			if i%10 == 0 {
				k.asks(t)
			}
			if r.Intn(40) == 0 {
				k.round(t)
			}
			if r.Intn(10) == 0 {
				k.script(t, r)
			}
		}
		k.asks(t)
		delivered += len(k.w.Log)
	}
	if delivered < 100 {
		t.Error("nothing happened", delivered)
	}
}

func (k *watch) round(t *testing.T) {
	next, ok := fair.Round(k.w)
	want := fmt.Sprintf("round %d", len(next.Log)-len(k.w.Log))
	if !ok {
		want += " busy"
	}
	k.w = next
	if text, err := k.p.Do("round"); text != want || err != api.OK {
		t.Fatal(text, err, want)
	}
}

// script does some steps as a script in hexadecimal.
func (k *watch) script(t *testing.T, r *rand.Rand) {
	var l []api.Step
	for range 1 + r.Intn(5) {
		_, s := random(r, k.w)
		l = append(l, s)
	}
	b, err := script.Bytes(l)
	if err != api.OK {
		t.Fatal(l, err)
	}
	next, answers := world.Run(k.w, l)
	errs, got := 0, 0
	for _, a := range answers {
		if a.Err != api.OK {
			errs++
		}
		if a.Some {
			got++
		}
	}
	k.w = next
	want := fmt.Sprintf("ran %d errors %d got %d", len(l), errs, got)
	if text, err := k.p.Do("script " + hex.EncodeToString(b)); text != want || err != api.OK {
		t.Fatal(text, err, want)
	}
	before := k.w
	for bad, want := range map[string]string{"0d": "error 10", "0d0c": "error 280", "0d000e": "error 10"} {
		if text, err := k.p.Do("script " + bad); text != want || err != api.OK {
			t.Fatal(bad, text, err)
		}
	}
	k.w = before
}

// What an outbox, and the net, has lost is told apart.
func TestPool(t *testing.T) {
	var lines strings.Builder
	lines.WriteString("world 2\nstart 0\nstart 1\njoin 1 0\ndeliver 0\ndeliver 0\n")
	for range 400 {
		lines.WriteString("tick 0\nstart 0\n")
	}
	for range 12 {
		lines.WriteString("double 0\n")
	}
	p := player.New()
	for _, line := range strings.Split(lines.String(), "\n") {
		p.Do(line)
	}
	for range 1000 {
		p.Do("double 0")
	}
	text, _ := p.Do("pool")
	var frames, lost, and int
	if n, _ := fmt.Sscanf(text, "pool %d lost %d and %d", &frames, &lost, &and); n != 3 || frames != 1000 || lost < 1 || and != 0 {
		t.Error(text)
	}
}

// The same lines have the same texts.
func TestSameTexts(t *testing.T) {
	r := rand.New(rand.NewSource(3))
	w, _ := world.New(player.Config(4), nil)
	lines := []string{"world 4 5 6 7", "start 0", "start 1", "start 2", "start 3", "join 1 0", "join 2 0", "join 3 1", "round", "want 1 0 9 0 99"}
	for range 200 {
		line, _ := random(r, w)
		lines = append(lines, line)
		if r.Intn(20) == 0 {
			lines = append(lines, "round", "log", "owed", "pool", "peer 1")
		}
	}
	all := strings.Join(lines, "\n")
	want := player.New().Run(all)
	if strings.Count(want, "\n") != len(lines) {
		t.Error("a text for each line", len(lines))
	}
	p := player.New()
	var got strings.Builder
	for _, line := range lines {
		text, err := p.Do(line)
		if err != api.OK {
			text = errText(err)
		}
		got.WriteString(text + "\n")
	}
	if got.String() != want || player.New().Run(all) != want {
		t.Error("other texts")
	}
}

func TestAnything(t *testing.T) {
	r := rand.New(rand.NewSource(4))
	words := []string{"world", "tick", "publish", "want", "script", "round", "frame", "-", "-0", "0", "1", "256", "0a", "", " ", "\n", "\x00", strings.Repeat("9", 30), strconv.Itoa(math.MaxInt)}
	p := player.New()
	p.Do("world 2")
	for range 5000 {
		var l []string
		for range r.Intn(8) {
			l = append(l, words[r.Intn(len(words))])
		}
		p.Do(strings.Join(l, " "))
		player.New().Run(strings.Join(l, " "))
	}
}
