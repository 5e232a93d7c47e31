package peer

import (
	"slices"

	"grapevine/api"
	"grapevine/cyclon"
	"grapevine/desc"
	"grapevine/pulse"
	"grapevine/ring"
	"grapevine/sample"
	"grapevine/state"
)

// answerTicks is for how many ticks the answer to a shuffle is waited for.
const answerTicks = 2

// work is what is done with one message, or in one tick.
type work struct {
	c     api.Config
	p     api.Peer
	m     api.Message
	draws []uint32
	sent  []api.Message
}

// Take returns p after it took m, and its answers.
func Take(c api.Config, p api.Peer, m api.Message, draws []uint32) (api.Peer, []api.Message) {
	if !p.Up || m.To != p.Node {
		return state.Copy(p), nil
	}
	heard, ok := Hear(c, p, m.From, m.Inc)
	if !ok {
		return heard, nil
	}
	w := &work{c: c, p: heard, m: m, draws: draws}
	do, known := kinds()[m.Kind]
	if !known {
		do = (*work).nothing
	}
	do(w)
	return w.p, w.sent
}

// Tick returns p after its tick, and its messages.
func Tick(c api.Config, p api.Peer, draws []uint32) (api.Peer, []api.Message) {
	if !p.Up {
		return state.Copy(p), nil
	}
	w := &work{c: c, p: state.Copy(p), draws: draws}
	w.age()
	w.askForShuffle()
	w.tellNear()
	w.tellRing()
	return w.p, w.sent
}

// kinds returns what is done with a message of each kind; each does its own meeting, as not all of them meet the same.
func kinds() map[uint8]func(*work) {
	return map[uint8]func(*work){
		api.KindJoin:     (*work).join,
		api.KindWelcome:  (*work).welcome,
		api.KindShuffle:  (*work).shuffle,
		api.KindShuffled: (*work).shuffled,
		api.KindNear:     (*work).introduced,
		api.KindProbe:    (*work).probe,
		api.KindRing:     (*work).introduced,
		api.KindBeat:     (*work).beat,
		api.KindLeave:    (*work).leave,
	}
}

func (w *work) join() {
	l := Fine(w.c, w.m.List)
	if len(w.m.List) == 1 && len(l) == 1 && l[0].Node == w.m.From && l[0].Inc == w.m.Inc {
		welcome := w.answer(api.KindWelcome, w.p.View)
		welcome.Table = slices.Clone(w.p.Table)
		w.send(welcome)
		w.p.View = sample.Admit(w.p.View, l[0], w.p.Node, w.c.View)
	}
	w.meet(nil)
}

func (w *work) welcome() {
	w.p = state.Learn(w.p, w.m.Table)
	w.p.View = sample.Fill(w.p.View, w.fresh(), w.p.Node, w.c.View)
	w.meet(nil)
}

func (w *work) shuffle() {
	picked := cyclon.Pick(w.p.View, w.c.Swap, w.m.From, w.draws)
	w.p.View = cyclon.Merge(w.p.View, w.fresh(), picked, w.p.Node, w.c.View)
	shuffled := state.Message(w.p, api.KindShuffled, w.m.From)
	shuffled.List = picked
	w.send(shuffled)
	w.meet(nil)
}

func (w *work) shuffled() {
	wait, sent, ok := sample.Answer(w.p.Wait, w.m.From)
	if ok {
		w.p.Wait = wait
		w.p.View = cyclon.Merge(w.p.View, w.fresh(), sent, w.p.Node, w.c.View)
	}
	w.meet(nil)
}

func (w *work) probe() {
	w.introduced()
	w.send(w.answer(api.KindRing, ring.List(w.p.Ring)))
}

func (w *work) beat() {
	w.p = state.Learn(w.p, w.m.Table)
	w.meet(nil)
}

func (w *work) leave() {
	w.p.Table = pulse.Left(w.p.Table, w.m.From, w.m.Inc)
	w.meet(nil)
}

func (w *work) introduced() {
	w.meet(w.m.List)
}

func (w *work) nothing() {
	w.meet(nil)
}

// age lets a tick pass for all that p waits for, and all whom it knows.
func (w *work) age() {
	w.p.View = desc.Older(w.p.View)
	w.p.Near = desc.Older(w.p.Near)
	w.p.Ring = ring.Older(w.p.Ring)
	w.p.Table, _ = pulse.Tick(w.p.Table, w.p.Node, w.c.Suspect)
	wait, gone, over := sample.Tick(w.p.Wait)
	w.p.Wait = wait
	if over {
		w.p.View = desc.Drop(w.p.View, gone)
	}
	w.meet(nil)
}

func (w *work) askForShuffle() {
	if w.p.Wait.Some {
		return
	}
	node, l, ok := cyclon.Ask(w.p.View, Self(w.p), w.c.Swap, w.draws)
	if !ok {
		return
	}
	m := state.Message(w.p, api.KindShuffle, node)
	m.List = l
	w.send(m)
	w.p.Wait = sample.Start(node, answerTicks, l)
}

func (w *work) tellNear() {
	links := Links(w.p)
	if len(links) == 0 {
		return
	}
	draw := uint64(0)
	if at := w.c.Swap; at >= 0 && at < len(w.draws) {
		draw = uint64(w.draws[at])
	}
	m := state.Message(w.p, api.KindNear, links[draw%uint64(len(links))])
	m.List = withSelf(w.p, w.p.Near)
	w.send(m)
}

func (w *work) tellRing() {
	if w.p.Ring.HasSucc {
		m := state.Message(w.p, api.KindProbe, w.p.Ring.Succ.Node)
		m.List = []api.Desc{Self(w.p)}
		w.send(m)
	}
	for _, d := range ring.List(w.p.Ring) {
		m := state.Message(w.p, api.KindBeat, d.Node)
		m.Table = slices.Clone(w.p.Table)
		w.send(m)
	}
}

// answer returns a message to who sent m, with a list and the own descriptor.
func (w *work) answer(kind uint8, l []api.Desc) api.Message {
	m := state.Message(w.p, kind, w.m.From)
	m.List = withSelf(w.p, l)
	return m
}

func (w *work) send(m api.Message) {
	w.sent = append(w.sent, m)
}

func (w *work) meet(l []api.Desc) {
	w.p = met(w.c, w.p, l)
}

// fresh returns what is valid and current of the list that was received.
func (w *work) fresh() []api.Desc {
	return current(w.p, Fine(w.c, w.m.List))
}

// withSelf returns l and the own descriptor of p, in increasing order of nodes.
func withSelf(p api.Peer, l []api.Desc) []api.Desc {
	out := append(desc.Copy(l), Self(p))
	slices.SortFunc(out, func(a, b api.Desc) int { return int(a.Node) - int(b.Node) })
	return out
}
