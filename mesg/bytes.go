package mesg

import (
	"grapevine/api"
	"grapevine/cursor"
)

func takeList[T any](r *cursor.Reader, take func(*cursor.Reader) T) []T {
	var l []T
	for range r.Byte() {
		l = append(l, take(r))
		if r.Bad {
			return nil
		}
	}
	return l
}

func takeDesc(r *cursor.Reader) api.Desc {
	return api.Desc{Node: r.Byte(), Inc: r.Short(), Age: r.Byte(), Filter: takeList(r, takeSpan)}
}

func takeSpan(r *cursor.Reader) api.Span {
	return api.Span{From: r.Value(), To: r.Value()}
}

func takeMember(r *cursor.Reader) api.Member {
	return api.Member{Inc: r.Short(), State: r.Byte(), Quiet: r.Byte()}
}

func takeEvent(r *cursor.Reader) api.Event {
	return api.Event{ID: takeID(r), Vals: takeList(r, (*cursor.Reader).Value), Data: r.Text()}
}

func takeID(r *cursor.Reader) api.ID {
	return api.ID{Node: r.Byte(), Inc: r.Short(), Seq: r.Long()}
}

func takeMark(r *cursor.Reader) api.Mark {
	return api.Mark{Node: r.Byte(), Inc: r.Short(), Seq: r.Long()}
}

func putList[T any](b []byte, l []T, each func([]byte, T) []byte) []byte {
	b = cursor.Put(b, uint64(len(l)), 1)
	for _, x := range l {
		b = each(b, x)
	}
	return b
}

func putDesc(b []byte, d api.Desc) []byte {
	b = cursor.Put(b, uint64(d.Node), 1)
	b = cursor.Put(b, uint64(d.Inc), 2)
	b = cursor.Put(b, uint64(d.Age), 1)
	return putList(b, d.Filter, putSpan)
}

func putSpan(b []byte, s api.Span) []byte {
	return cursor.PutValue(cursor.PutValue(b, s.From), s.To)
}

func putMember(b []byte, m api.Member) []byte {
	b = cursor.Put(b, uint64(m.Inc), 2)
	b = cursor.Put(b, uint64(m.State), 1)
	return cursor.Put(b, uint64(m.Quiet), 1)
}

func putEvent(b []byte, e api.Event) []byte {
	b = putList(putID(b, e.ID), e.Vals, cursor.PutValue)
	return cursor.PutText(b, e.Data)
}

func putID(b []byte, x api.ID) []byte {
	return putMark(b, api.Mark{Node: x.Node, Inc: x.Inc, Seq: x.Seq})
}

func putMark(b []byte, m api.Mark) []byte {
	b = cursor.Put(b, uint64(m.Node), 1)
	b = cursor.Put(b, uint64(m.Inc), 2)
	return cursor.Put(b, uint64(m.Seq), 4)
}
