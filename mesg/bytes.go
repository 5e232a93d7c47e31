package mesg

import (
	"grapevine/api"
	"grapevine/wire"
)

const mostText = 65535 // any text: what is too long for a message is no fault of the bytes

// reader takes numbers from the front of b, till one of them is not there.
type reader struct {
	b   []byte
	bad bool
}

// number hands over to wire no more than it takes, as that copies the rest.
func (r *reader) number(n int) uint64 {
	if r.bad || len(r.b) < n {
		r.bad = true
		return 0
	}
	x, _, _ := wire.Take(r.b[:n], n)
	r.b = r.b[n:]
	return x
}

func (r *reader) byte() uint8   { return uint8(r.number(1)) }
func (r *reader) short() uint16 { return uint16(r.number(2)) }
func (r *reader) long() uint32  { return uint32(r.number(4)) }
func (r *reader) value() int32  { return wire.Signed(r.number(4)) }

func (r *reader) text() []byte {
	text, rest, ok := wire.TakeText(r.b, mostText)
	if r.bad || !ok {
		r.bad = true
		return nil
	}
	r.b = rest
	return text
}

func takeList[T any](r *reader, take func(*reader) T) []T {
	var l []T
	for range r.byte() {
		l = append(l, take(r))
		if r.bad {
			return nil
		}
	}
	return l
}

func takeDesc(r *reader) api.Desc {
	return api.Desc{Node: r.byte(), Inc: r.short(), Age: r.byte(), Filter: takeList(r, takeSpan)}
}

func takeSpan(r *reader) api.Span {
	return api.Span{From: r.value(), To: r.value()}
}

func takeMember(r *reader) api.Member {
	return api.Member{Inc: r.short(), State: r.byte(), Quiet: r.byte()}
}

func takeEvent(r *reader) api.Event {
	return api.Event{ID: takeID(r), Vals: takeList(r, (*reader).value), Data: r.text()}
}

func takeID(r *reader) api.ID {
	return api.ID{Node: r.byte(), Inc: r.short(), Seq: r.long()}
}

func takeMark(r *reader) api.Mark {
	return api.Mark{Node: r.byte(), Inc: r.short(), Seq: r.long()}
}

// put appends a number; b is never one that was handed in.
func put(b []byte, x uint64, n int) []byte {
	return append(b, wire.Put(nil, x, n)...)
}

func putList[T any](b []byte, l []T, each func([]byte, T) []byte) []byte {
	b = put(b, uint64(len(l)), 1)
	for _, x := range l {
		b = each(b, x)
	}
	return b
}

func putDesc(b []byte, d api.Desc) []byte {
	b = put(b, uint64(d.Node), 1)
	b = put(b, uint64(d.Inc), 2)
	b = put(b, uint64(d.Age), 1)
	return putList(b, d.Filter, putSpan)
}

func putSpan(b []byte, s api.Span) []byte {
	return putValue(putValue(b, s.From), s.To)
}

func putValue(b []byte, v int32) []byte {
	return put(b, wire.Unsigned(v), 4)
}

func putMember(b []byte, m api.Member) []byte {
	b = put(b, uint64(m.Inc), 2)
	b = put(b, uint64(m.State), 1)
	return put(b, uint64(m.Quiet), 1)
}

func putEvent(b []byte, e api.Event) []byte {
	b = putList(putID(b, e.ID), e.Vals, putValue)
	return append(b, wire.PutText(nil, e.Data)...)
}

func putID(b []byte, x api.ID) []byte {
	return putMark(b, api.Mark{Node: x.Node, Inc: x.Inc, Seq: x.Seq})
}

func putMark(b []byte, m api.Mark) []byte {
	b = put(b, uint64(m.Node), 1)
	b = put(b, uint64(m.Inc), 2)
	return put(b, uint64(m.Seq), 4)
}
