package world

import (
	"slices"

	"grapevine/api"
	"grapevine/mesg"
	"grapevine/net"
	"grapevine/node"
	"grapevine/outbox"
	"grapevine/peer"
	"grapevine/tape"
)

// work is a step that is being done. Its world shares memory with the one before; nothing of that is ever written to.
type work struct {
	w api.World
	s api.Step
	a api.Answer
}

// effects returns the effect of each kind of step. With an error the world is left as it is to be.
func effects() map[uint8]func(*work) api.Errno {
	return map[uint8]func(*work) api.Errno{
		api.StepTick:        (*work).tick,
		api.StepDeliver:     (*work).deliver,
		api.StepDrop:        (*work).drop,
		api.StepDouble:      (*work).double,
		api.StepBend:        (*work).bend,
		api.StepMove:        (*work).move,
		api.StepSubscribe:   (*work).subscribe,
		api.StepUnsubscribe: (*work).unsubscribe,
		api.StepPublish:     (*work).publish,
		api.StepJoin:        (*work).join,
		api.StepLeave:       (*work).leave,
		api.StepCrash:       (*work).crash,
		api.StepStart:       (*work).start,
	}
}

func (k *work) tick() api.Errno {
	p, err := k.upPeer()
	if err != api.OK {
		return err
	}
	next, sent := node.Tick(k.w.Config, p, k.draws())
	k.become(k.s.Node, next)
	k.send(sent)
	return api.OK
}

func (k *work) deliver() api.Errno {
	parcel, rest, err := net.Take(k.w.Net, k.s.At)
	if err != api.OK {
		return err
	}
	k.w.Net = rest
	m, err := mesg.Parse(parcel.B)
	if err != api.OK {
		return err
	}
	if int(parcel.To) >= len(k.w.Peers) || !k.w.Peers[parcel.To].Up {
		return api.ErrDown
	}
	next, sent, delivered := node.Take(k.w.Config, k.w.Peers[parcel.To], m, k.draws())
	k.become(parcel.To, next)
	k.send(sent)
	for _, e := range delivered {
		k.deliverEvent(next, e)
	}
	return api.OK
}

func (k *work) drop() api.Errno {
	n, err := net.Lose(k.w.Net, k.s.At)
	k.w.Net = n
	return err
}

func (k *work) double() api.Errno {
	n, err := net.Double(k.w.Net, k.s.At)
	k.w.Net = n
	return err
}

func (k *work) bend() api.Errno {
	n, err := net.Bend(k.w.Net, k.s.At, k.s.From, k.s.Turns)
	k.w.Net = n
	return err
}

func (k *work) move() api.Errno {
	n, err := net.Move(k.w.Net, k.s.At, k.s.To)
	k.w.Net = n
	return err
}

func (k *work) subscribe() api.Errno {
	return k.want(k.s.Filter)
}

func (k *work) unsubscribe() api.Errno {
	return k.want(nil)
}

func (k *work) publish() api.Errno {
	p, err := k.peer()
	if err != api.OK {
		return err
	}
	before := k.w.Tape
	next, e, wanted, sent, err := node.Publish(k.w.Config, p, k.s.Vals, k.s.Data, k.draws())
	if err != api.OK {
		k.w.Tape = before
		return err
	}
	k.become(k.s.Node, next)
	k.w.Events = append(slices.Clip(k.w.Events), own(e))
	k.a.ID = e.ID
	k.send(sent)
	if wanted {
		k.deliverEvent(next, e)
	}
	return api.OK
}

func (k *work) join() api.Errno {
	p, err := k.peer()
	if err != api.OK {
		return err
	}
	sent, err := peer.Join(k.w.Config, p, k.s.Other)
	k.send(sent)
	return err
}

func (k *work) leave() api.Errno {
	p, err := k.peer()
	if err != api.OK {
		return err
	}
	next, sent, err := peer.Leave(k.w.Config, p)
	k.become(k.s.Node, next)
	k.send(sent)
	return err
}

func (k *work) crash() api.Errno {
	p, err := k.upPeer()
	if err == api.OK {
		k.become(k.s.Node, peer.Down(k.w.Config, p))
	}
	return err
}

func (k *work) start() api.Errno {
	p, err := k.peer()
	if err != api.OK {
		return err
	}
	next, err := peer.Start(k.w.Config, p)
	k.become(k.s.Node, next)
	return err
}

func (k *work) want(f api.Filter) api.Errno {
	p, err := k.peer()
	if err != api.OK {
		return err
	}
	next, err := peer.Want(k.w.Config, p, f)
	k.become(k.s.Node, next)
	return err
}

// peer returns the peer that the step is about.
func (k *work) peer() (api.Peer, api.Errno) {
	if int(k.s.Node) >= min(k.w.Config.Nodes, len(k.w.Peers)) {
		return api.Peer{}, api.ErrArg
	}
	return k.w.Peers[k.s.Node], api.OK
}

func (k *work) upPeer() (api.Peer, api.Errno) {
	p, err := k.peer()
	if err == api.OK && !p.Up {
		err = api.ErrDown
	}
	return p, err
}

// become puts p in place of the peer of that node.
func (k *work) become(at uint8, p api.Peer) {
	k.w.Peers = slices.Clone(k.w.Peers)
	k.w.Peers[at] = p
}

// draws takes from the tape what a step of a peer may need.
func (k *work) draws() []uint32 {
	drawn, rest := tape.Some(k.w.Tape, k.w.Config.Swap+k.w.Config.Fanout+1)
	k.w.Tape = rest
	return drawn
}

// send puts messages on their way, as far as the outbox and the net have room.
func (k *work) send(l []api.Message) {
	o := api.Outbox{Room: k.w.Config.Out}
	for _, m := range l {
		o = outbox.Put(o, m)
	}
	k.w.Lost += o.Lost
	for {
		m, rest, ok := outbox.Take(o)
		if !ok {
			return
		}
		o = rest
		if b, err := mesg.Bytes(m); err == api.OK {
			k.w.Net = net.Send(k.w.Net, m.To, b)
		}
	}
}

// deliverEvent logs that p delivered e, and makes it the answer.
func (k *work) deliverEvent(p api.Peer, e api.Event) {
	d := api.Delivery{Node: p.Node, Inc: p.Inc, Event: own(e)}
	k.w.Log = append(slices.Clip(k.w.Log), d)
	k.a.Some = true
	k.a.Delivery = api.Delivery{Node: p.Node, Inc: p.Inc, Event: own(e)}
}

func own(e api.Event) api.Event {
	return api.Event{ID: e.ID, Vals: slices.Clone(e.Vals), Data: slices.Clone(e.Data)}
}
