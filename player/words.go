package player

import (
	"strconv"
	"strings"

	"grapevine/api"
	"grapevine/fair"
	"grapevine/mesg"
	"grapevine/model"
	"grapevine/peer"
	"grapevine/script"
	"grapevine/trace"
	"grapevine/world"
)

const none = "none"

// words returns what is done with a line that is no step.
func words() map[uint8]func(*Player, api.Typed) string {
	return map[uint8]func(*Player, api.Typed) string{
		api.TypedWorld:  (*Player).world,
		api.TypedScript: (*Player).script,
		api.TypedRound:  (*Player).round,
		api.TypedPool:   (*Player).pool,
		api.TypedFrame:  (*Player).frame,
		api.TypedPeer:   (*Player).peer,
		api.TypedLog:    (*Player).log,
		api.TypedOwed:   (*Player).owed,
		api.TypedReach:  (*Player).reach,
	}
}

func (p *Player) world(t api.Typed) string {
	nodes := t.Nums[0]
	var draws []uint32
	for _, n := range t.Nums[1:] {
		draws = append(draws, uint32(n))
	}
	w, err := world.New(Config(nodes), draws)
	if err != api.OK {
		return errorText(err)
	}
	p.w, p.some = w, true
	return spaced("world", numbers(nodes))
}

func (p *Player) script(t api.Typed) string {
	l, err := script.Parse(t.Data)
	if err != api.OK {
		return errorText(err)
	}
	next, answers := world.Run(p.w, l)
	p.w = next
	errors, got := 0, 0
	for _, a := range answers {
		if a.Err != api.OK {
			errors++
		}
		if a.Some {
			got++
		}
	}
	return spaced("ran", numbers(len(l)), "errors", numbers(errors), "got", numbers(got))
}

func (p *Player) round(api.Typed) string {
	next, well := fair.Round(p.w)
	text := spaced("round", numbers(len(next.Log)-len(p.w.Log)))
	p.w = next
	if !well {
		text = spaced(text, "busy")
	}
	return text
}

func (p *Player) pool(api.Typed) string {
	return spaced("pool", numbers(len(p.w.Net.L)), "lost", numbers(p.w.Net.Lost), "and", numbers(p.w.Lost))
}

func (p *Player) frame(t api.Typed) string {
	at := t.Nums[0]
	if at >= len(p.w.Net.L) {
		return none
	}
	m, err := mesg.Parse(p.w.Net.L[at].B)
	if err != api.OK {
		return errorText(err)
	}
	return numbers(m.Kind, m.From, m.To)
}

func (p *Player) peer(t api.Typed) string {
	at := t.Nums[0]
	if at >= len(p.w.Peers) {
		return none
	}
	x := p.w.Peers[at]
	text := "down"
	if x.Up {
		text = "up"
	}
	text = spaced(text, numbers(x.Inc))
	if links := peer.Links(x); len(links) > 0 {
		text = spaced(text, numbers(links...))
	}
	return text
}

func (p *Player) log(api.Typed) string {
	var l []api.Given
	for _, d := range p.w.Log {
		l = append(l, api.Given{Node: d.Node, Inc: d.Inc, ID: d.Event.ID})
	}
	return givenText(l)
}

func (p *Player) owed(api.Typed) string {
	return givenText(model.Owed(trace.Model(p.w)))
}

func (p *Player) reach(t api.Typed) string {
	from := t.Nums[0]
	if from >= len(p.w.Peers) {
		return none
	}
	l := fair.Reach(p.w, uint8(from))
	if len(l) == 0 {
		return none
	}
	return numbers(l...)
}

func givenText(l []api.Given) string {
	if len(l) == 0 {
		return none
	}
	var texts []string
	for _, g := range l {
		texts = append(texts, spaced(numbers(uint16(g.Node), g.Inc), idText(g.ID)))
	}
	return strings.Join(texts, ", ")
}

func idText(x api.ID) string {
	return numbers(uint32(x.Node), uint32(x.Inc), x.Seq)
}

func errorText(err api.Errno) string {
	return spaced("error", numbers(err))
}

// numbers returns the digits of numbers of any kind.
func numbers[T ~uint8 | ~uint16 | ~uint32 | ~int](l ...T) string {
	var texts []string
	for _, n := range l {
		texts = append(texts, strconv.FormatInt(int64(n), 10))
	}
	return spaced(texts...)
}

func spaced(l ...string) string {
	return strings.Join(l, " ")
}
