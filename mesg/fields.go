package mesg

import (
	"grapevine/api"
	"grapevine/cursor"
)

const (
	mostDescs = 64
	mostIDs   = 255
)

// name is a field's, in the order in which fields are written.
type name int

const (
	list name = iota
	table
	event
	hops
	origin
	marks
	ids
)

// field is how one field of a message is written and read, whether it may be as it is, and whether it is zero.
type field struct {
	write func([]byte, api.Message) []byte
	read  func(*cursor.Reader, *api.Message)
	right func(api.Message) bool
	empty func(api.Message) bool
}

// kinds returns the fields of each kind.
func kinds() map[uint8][]name {
	return map[uint8][]name{
		api.KindJoin:     {list},
		api.KindWelcome:  {list, table},
		api.KindShuffle:  {list},
		api.KindShuffled: {list},
		api.KindNear:     {list},
		api.KindProbe:    {list},
		api.KindRing:     {list},
		api.KindBeat:     {table},
		api.KindLeave:    {},
		api.KindPush:     {event, hops},
		api.KindDigest:   {table, hops, origin, marks, ids},
		api.KindPull:     {ids},
	}
}

// fields returns all fields, in the order of their names.
func fields() []field {
	return []field{
		list: {
			write: func(b []byte, m api.Message) []byte { return putList(b, m.List, putDesc) },
			read:  func(r *cursor.Reader, m *api.Message) { m.List = takeList(r, takeDesc) },
			right: func(m api.Message) bool { return allOf(m.List, mostDescs, rightDesc) },
			empty: func(m api.Message) bool { return len(m.List) == 0 },
		},
		table: {
			write: func(b []byte, m api.Message) []byte { return putList(b, m.Table, putMember) },
			read:  func(r *cursor.Reader, m *api.Message) { m.Table = takeList(r, takeMember) },
			right: func(m api.Message) bool { return allOf(m.Table, api.MaxNodes, rightMember) },
			empty: func(m api.Message) bool { return len(m.Table) == 0 },
		},
		event: {
			write: func(b []byte, m api.Message) []byte { return putEvent(b, m.Event) },
			read:  func(r *cursor.Reader, m *api.Message) { m.Event = takeEvent(r) },
			right: func(m api.Message) bool { return rightEvent(m.Event) },
			empty: func(m api.Message) bool { return sameEvent(m.Event, api.Event{}) },
		},
		hops: {
			write: func(b []byte, m api.Message) []byte { return cursor.Put(b, uint64(m.Hops), 1) },
			read:  func(r *cursor.Reader, m *api.Message) { m.Hops = r.Byte() },
			right: func(m api.Message) bool { return true },
			empty: func(m api.Message) bool { return m.Hops == 0 },
		},
		origin: {
			write: func(b []byte, m api.Message) []byte { return putMark(b, m.Origin) },
			read:  func(r *cursor.Reader, m *api.Message) { m.Origin = takeMark(r) },
			right: func(m api.Message) bool { return rightMark(m.Origin) },
			empty: func(m api.Message) bool { return m.Origin == api.Mark{} },
		},
		marks: {
			write: func(b []byte, m api.Message) []byte { return putList(b, m.Marks, putMark) },
			read:  func(r *cursor.Reader, m *api.Message) { m.Marks = takeList(r, takeMark) },
			right: func(m api.Message) bool { return allOf(m.Marks, api.MaxNodes, rightMark) },
			empty: func(m api.Message) bool { return len(m.Marks) == 0 },
		},
		ids: {
			write: func(b []byte, m api.Message) []byte { return putList(b, m.IDs, putID) },
			read:  func(r *cursor.Reader, m *api.Message) { m.IDs = takeList(r, takeID) },
			right: func(m api.Message) bool { return allOf(m.IDs, mostIDs, rightID) },
			empty: func(m api.Message) bool { return len(m.IDs) == 0 },
		},
	}
}

// allOf reports whether l has at most that many elements, and each may be as it is.
func allOf[T any](l []T, most int, right func(T) bool) bool {
	if len(l) > most {
		return false
	}
	for _, x := range l {
		if !right(x) {
			return false
		}
	}
	return true
}

func rightDesc(d api.Desc) bool {
	return d.Node < api.MaxNodes && d.Inc > 0 && len(d.Filter) <= api.MaxAttrs
}

func rightMember(m api.Member) bool {
	return m.State <= api.MemLeft
}

func rightMark(m api.Mark) bool {
	return m.Node < api.MaxNodes
}

func rightID(x api.ID) bool {
	return x.Node < api.MaxNodes && x.Inc > 0 && x.Seq > 0
}

func rightEvent(e api.Event) bool {
	return rightID(e.ID) && len(e.Vals) <= api.MaxAttrs && len(e.Data) <= api.MaxData
}
