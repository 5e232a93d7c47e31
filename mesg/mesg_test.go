package mesg_test

import (
	"bytes"
	"encoding/binary"
	"hash/crc32"
	"math"
	"math/rand"
	"reflect"
	"slices"
	"testing"

	"grapevine/api"
	"grapevine/mesg"
)

// The fields of each kind: L list, T table, E event, H hops, O origin, M marks, I ids.
var fields = map[uint8]string{
	api.KindJoin: "L", api.KindShuffle: "L", api.KindShuffled: "L", api.KindNear: "L", api.KindProbe: "L", api.KindRing: "L",
	api.KindWelcome: "LT", api.KindBeat: "T", api.KindLeave: "", api.KindPush: "EH", api.KindDigest: "THOMI", api.KindPull: "I",
}

func seal(b []byte) []byte {
	return binary.LittleEndian.AppendUint32(b[:len(b):len(b)], crc32.Checksum(b, crc32.MakeTable(crc32.Castagnoli)))
}

func values(b []byte, l ...int32) []byte {
	for _, v := range l {
		b = binary.BigEndian.AppendUint32(b, uint32(int64(v)+1<<31))
	}
	return b
}

func three(b []byte, node uint8, inc uint16, seq uint32) []byte {
	return binary.BigEndian.AppendUint32(binary.BigEndian.AppendUint16(append(b, node), inc), seq)
}

// plain is what is before the check sum, by the chapter's words, whether the message is right or not.
func plain(m api.Message) []byte {
	b := append([]byte{m.Kind, m.From}, byte(m.Inc>>8), byte(m.Inc), m.To)
	for _, f := range fields[m.Kind] {
		switch f {
		case 'L':
			b = append(b, byte(len(m.List)))
			for _, d := range m.List {
				b = append(b, d.Node, byte(d.Inc>>8), byte(d.Inc), d.Age, byte(len(d.Filter)))
				for _, s := range d.Filter {
					b = values(b, s.From, s.To)
				}
			}
		case 'T':
			b = append(b, byte(len(m.Table)))
			for _, x := range m.Table {
				b = append(b, byte(x.Inc>>8), byte(x.Inc), x.State, x.Quiet)
			}
		case 'E':
			b = three(b, m.Event.ID.Node, m.Event.ID.Inc, m.Event.ID.Seq)
			b = values(append(b, byte(len(m.Event.Vals))), m.Event.Vals...)
			b = append(binary.BigEndian.AppendUint16(b, uint16(len(m.Event.Data))), m.Event.Data...)
		case 'H':
			b = append(b, m.Hops)
		case 'O':
			b = three(b, m.Origin.Node, m.Origin.Inc, m.Origin.Seq)
		case 'M':
			b = append(b, byte(len(m.Marks)))
			for _, x := range m.Marks {
				b = three(b, x.Node, x.Inc, x.Seq)
			}
		case 'I':
			b = append(b, byte(len(m.IDs)))
			for _, x := range m.IDs {
				b = three(b, x.Node, x.Inc, x.Seq)
			}
		}
	}
	return b
}

func some[T any](r *rand.Rand, most int, one func() T) []T {
	n := r.Intn(min(most, 5) + 1)
	if r.Intn(6) == 0 {
		n = most
	}
	var l []T
	for range n {
		l = append(l, one())
	}
	return l
}

// random is a right message of any kind.
func random(r *rand.Rand) api.Message {
	node := func() uint8 { return uint8(r.Intn(12)) }
	inc := func() uint16 { return uint16(1 + r.Intn(65535)) }
	seq := func() uint32 { return r.Uint32() | 1 }
	id := func() api.ID { return api.ID{Node: node(), Inc: inc(), Seq: seq()} }
	mark := func() api.Mark { return api.Mark{Node: node(), Inc: uint16(r.Uint32()), Seq: r.Uint32()} }
	span := func() api.Span { return api.Span{From: int32(r.Uint32()), To: int32(r.Uint32())} }
	desc := func() api.Desc {
		return api.Desc{Node: node(), Inc: inc(), Age: uint8(r.Uint32()), Filter: some(r, 4, span)}
	}
	m := api.Message{Kind: uint8(1 + r.Intn(12)), From: node(), Inc: inc(), To: node()}
	for _, f := range fields[m.Kind] {
		switch f {
		case 'L':
			m.List = some(r, 64, desc)
		case 'T':
			m.Table = some(r, 12, func() api.Member {
				return api.Member{Inc: uint16(r.Uint32()), State: uint8(r.Intn(4)), Quiet: uint8(r.Uint32())}
			})
		case 'E':
			m.Event = api.Event{ID: id(), Vals: some(r, 4, func() int32 { return int32(r.Uint32()) }), Data: some(r, 64, func() byte { return byte(r.Uint32()) })}
		case 'H':
			m.Hops = uint8(r.Uint32())
		case 'O':
			m.Origin = mark()
		case 'M':
			m.Marks = some(r, 12, mark)
		case 'I':
			m.IDs = some(r, 255, id)
		}
	}
	return m
}

func TestExamples(t *testing.T) {
	leave := api.Message{Kind: api.KindLeave, From: 1, Inc: 2, To: 3}
	if b, err := mesg.Bytes(leave); err != api.OK || !bytes.Equal(b, seal([]byte{9, 1, 0, 2, 3})) {
		t.Error(b, err)
	}
	pull := api.Message{Kind: api.KindPull, From: 0, Inc: 1, To: 1, IDs: []api.ID{{Node: 2, Inc: 1, Seq: 5}}}
	if b, err := mesg.Bytes(pull); err != api.OK || !bytes.Equal(b, seal([]byte{12, 0, 0, 1, 1, 1, 2, 0, 1, 0, 0, 0, 5})) {
		t.Error(b, err)
	}
	leave.IDs = pull.IDs
	if b, err := mesg.Bytes(leave); err != api.ErrMesg || len(b) != 0 || mesg.Right(leave) {
		t.Error(b, err)
	}
	for i, c := range []struct {
		b   []byte
		err api.Errno
	}{
		{seal([]byte{9, 1, 0, 2, 3, 4}), api.ErrWire}, {seal([]byte{9, 1, 0, 0, 3}), api.ErrMesg}, {seal([]byte{13, 1, 0, 2, 3}), api.ErrWire}, {seal([]byte{0, 1, 0, 2, 3}), api.ErrWire}, {[]byte{9, 1, 0, 2, 3}, api.ErrSum}, {nil, api.ErrSum}, {[]byte{0, 0, 0, 0}, api.ErrWire},
		{seal([]byte{9, 12, 0, 2, 3}), api.ErrMesg}, {seal([]byte{9, 1, 0, 2, 12}), api.ErrMesg}, {seal([]byte{9, 1, 0, 2}), api.ErrWire}, {seal([]byte{9}), api.ErrWire}, {seal([]byte{255, 1, 0, 2, 3}), api.ErrWire},
		{seal([]byte{8, 1, 0, 2, 3}), api.ErrWire}, {seal([]byte{8, 1, 0, 2, 3, 1}), api.ErrWire}, {seal([]byte{8, 1, 0, 2, 3, 0, 0}), api.ErrWire}, {seal([]byte{13, 1, 0, 0, 3}), api.ErrWire},
	} {
		if m, err := mesg.Parse(c.b); err != c.err || !reflect.DeepEqual(m, api.Message{}) {
			t.Error(i, m, err)
		}
	}
	if m, err := mesg.Parse(seal([]byte{9, 1, 0, 2, 3})); err != api.OK || !reflect.DeepEqual(m, api.Message{Kind: 9, From: 1, Inc: 2, To: 3}) {
		t.Error(m, err)
	}
	broken := seal([]byte{9, 1, 0, 0, 3})
	broken[7] ^= 4
	if m, err := mesg.Parse(broken); err != api.ErrSum || !reflect.DeepEqual(m, api.Message{}) {
		t.Error("first ErrSum", m, err)
	}
}

// wrong changes a right message so that it is right no more, in each way that the chapter names.
var wrong = []struct {
	fields string // it is about messages with one of these
	change func(*api.Message)
}{
	{"", func(m *api.Message) { m.Kind = 0 }},
	{"", func(m *api.Message) { m.Kind = 13 }},
	{"", func(m *api.Message) { m.Kind = 255 }},
	{"", func(m *api.Message) { m.From = 12 }},
	{"", func(m *api.Message) { m.From = 255 }},
	{"", func(m *api.Message) { m.To = 12 }},
	{"", func(m *api.Message) { m.Inc = 0 }},
	{"L", func(m *api.Message) { m.List = make([]api.Desc, 65); fill(m.List) }},
	{"L", func(m *api.Message) { m.List = append(m.List[:min(len(m.List), 63)], api.Desc{Node: 12, Inc: 1}) }},
	{"L", func(m *api.Message) { m.List = append(m.List[:min(len(m.List), 63)], api.Desc{Node: 1, Inc: 0}) }},
	{"L", func(m *api.Message) {
		m.List = append([]api.Desc{{Node: 1, Inc: 1, Filter: make(api.Filter, 5)}}, m.List[:min(len(m.List), 63)]...)
	}},
	{"T", func(m *api.Message) { m.Table = make([]api.Member, 13) }},
	{"T", func(m *api.Message) { m.Table = append(m.Table[:min(len(m.Table), 11)], api.Member{Inc: 1, State: 4}) }},
	{"T", func(m *api.Message) { m.Table = append(m.Table[:min(len(m.Table), 11)], api.Member{State: 255}) }},
	{"E", func(m *api.Message) { m.Event.ID.Node = 12 }},
	{"E", func(m *api.Message) { m.Event.ID.Inc = 0 }},
	{"E", func(m *api.Message) { m.Event.ID.Seq = 0 }},
	{"E", func(m *api.Message) { m.Event.Vals = make([]int32, 5) }},
	{"E", func(m *api.Message) { m.Event.Data = make([]byte, 65) }},
	{"O", func(m *api.Message) { m.Origin.Node = 12 }},
	{"M", func(m *api.Message) { m.Marks = make([]api.Mark, 13) }},
	{"M", func(m *api.Message) { m.Marks = append(m.Marks[:min(len(m.Marks), 11)], api.Mark{Node: 12}) }},
	{"I", func(m *api.Message) { m.IDs = append(m.IDs[:min(len(m.IDs), 254)], api.ID{Node: 12, Inc: 1, Seq: 1}) }},
	{"I", func(m *api.Message) { m.IDs = append(m.IDs[:min(len(m.IDs), 254)], api.ID{Node: 1, Inc: 0, Seq: 1}) }},
	{"I", func(m *api.Message) { m.IDs = append(m.IDs[:min(len(m.IDs), 254)], api.ID{Node: 1, Inc: 1, Seq: 0}) }},
}

func copied(m api.Message) api.Message {
	m.List, m.Table, m.Marks, m.IDs = slices.Clone(m.List), slices.Clone(m.Table), slices.Clone(m.Marks), slices.Clone(m.IDs)
	return m
}

func fill(l []api.Desc) {
	for i := range l {
		l[i] = api.Desc{Node: 1, Inc: 1}
	}
}

// foreign sets a field to what is right where a kind has it.
var foreign = map[byte]func(*api.Message){
	'L': func(m *api.Message) { m.List = []api.Desc{{Node: 1, Inc: 1}} },
	'T': func(m *api.Message) { m.Table = []api.Member{{}} },
	'E': func(m *api.Message) { m.Event.ID.Seq = 1 },
	'e': func(m *api.Message) { m.Event.Data = []byte{0} },
	'f': func(m *api.Message) { m.Event.Vals = []int32{0} },
	'H': func(m *api.Message) { m.Hops = 1 },
	'O': func(m *api.Message) { m.Origin.Seq = 1 },
	'M': func(m *api.Message) { m.Marks = []api.Mark{{}} },
	'I': func(m *api.Message) { m.IDs = []api.ID{{Inc: 1, Seq: 1}} },
}

func TestRight(t *testing.T) {
	r := rand.New(rand.NewSource(1))
	for range 3000 {
		m := random(r)
		if !mesg.Right(m) {
			t.Fatal("right", m)
		}
		for i, w := range wrong {
			n := copied(m)
			if w.fields != "" && !bytes.ContainsAny([]byte(fields[m.Kind]), w.fields) {
				continue
			}
			w.change(&n)
			if mesg.Right(n) {
				t.Fatal("wrong", i, n)
			}
			if b, err := mesg.Bytes(n); err != api.ErrMesg || len(b) != 0 {
				t.Fatal("wrong", i, b, err)
			}
		}
		for f, set := range foreign {
			n := m
			set(&n)
			has := bytes.ContainsRune(bytes.ToUpper([]byte(fields[m.Kind])), rune(f)) || (f == 'e' || f == 'f') && m.Kind == api.KindPush
			if mesg.Right(n) != has {
				t.Fatal("foreign", string(f), n)
			}
		}
	}
	empty := api.Message{Kind: api.KindLeave, Inc: 1, List: []api.Desc{}, Table: []api.Member{}, Marks: []api.Mark{}, IDs: []api.ID{}, Event: api.Event{Vals: []int32{}, Data: []byte{}}}
	if !mesg.Right(empty) || !mesg.Same(empty, api.Message{Kind: api.KindLeave, Inc: 1}) {
		t.Error("an empty list is none")
	}
	pull := api.Message{Kind: api.KindPull, Inc: 1, IDs: make([]api.ID, 255)}
	for i := range pull.IDs {
		pull.IDs[i] = api.ID{Inc: 1, Seq: 1}
	}
	if !mesg.Right(pull) {
		t.Error("255 ids")
	}
	pull.IDs = append(pull.IDs, pull.IDs[0])
	if b, err := mesg.Bytes(pull); mesg.Right(pull) || err != api.ErrMesg || len(b) != 0 {
		t.Error("256 ids")
	}
	if mesg.Right(api.Message{}) || mesg.Right(api.Message{Kind: api.KindPush, Inc: 1}) {
		t.Error("without an event")
	}
}

func TestBytesParse(t *testing.T) {
	r := rand.New(rand.NewSource(2))
	for range 3000 {
		m := random(r)
		b, err := mesg.Bytes(m)
		if err != api.OK || !bytes.Equal(b, seal(plain(m))) {
			t.Fatal(m, b, err)
		}
		n, err := mesg.Parse(b)
		if err != api.OK || !mesg.Same(m, n) || !bytes.Equal(plain(n), plain(m)) {
			t.Fatal(m, n, err)
		}
		body := plain(m)
		if n, err := mesg.Parse(seal(body[:r.Intn(len(body))])); err != api.ErrWire || !reflect.DeepEqual(n, api.Message{}) {
			t.Fatal("cut", m, n, err)
		}
		if n, err := mesg.Parse(seal(append(body[:len(body):len(body)], byte(r.Intn(256))))); err != api.ErrWire || !reflect.DeepEqual(n, api.Message{}) {
			t.Fatal("too long", m, n, err)
		}
	}
}

// Bytes that say what may not be: ErrMesg, whatever the numbers, and however long the lists.
func TestParseWrong(t *testing.T) {
	r := rand.New(rand.NewSource(3))
	for range 1000 {
		m := random(r)
		for i, w := range wrong[3:] {
			n := copied(m)
			if w.fields != "" && !bytes.ContainsAny([]byte(fields[m.Kind]), w.fields) {
				continue
			}
			w.change(&n)
			if got, err := mesg.Parse(seal(plain(n))); err != api.ErrMesg || !reflect.DeepEqual(got, api.Message{}) {
				t.Fatal(i, n, got, err)
			}
		}
	}
	long := api.Message{Kind: api.KindPush, Inc: 1, Event: api.Event{ID: api.ID{Inc: 1, Seq: 1}, Data: make([]byte, 65535)}}
	many := api.Message{Kind: api.KindJoin, Inc: 1, List: make([]api.Desc, 255)}
	for i := range many.List {
		many.List[i] = api.Desc{Inc: 1, Filter: make(api.Filter, 255)}
	}
	for i, m := range []api.Message{long, many, {Kind: api.KindBeat, Inc: 1, Table: make([]api.Member, 255)}} {
		if got, err := mesg.Parse(seal(plain(m))); err != api.ErrMesg || !reflect.DeepEqual(got, api.Message{}) {
			t.Error(i, err)
		}
	}
}

func TestParseNoise(t *testing.T) {
	r := rand.New(rand.NewSource(4))
	for range 20000 {
		b := make([]byte, r.Intn(40))
		r.Read(b)
		if len(b) > 4 && r.Intn(4) > 0 {
			b[0], b[2] = uint8(1+r.Intn(12)), 0
			for i := 4; i < len(b); i++ {
				b[i] &= 3
			}
		}
		m, err := mesg.Parse(seal(b))
		if err == api.OK && (!bytes.Equal(plain(m), b) || !mesg.Right(m)) || err != api.OK && (err != api.ErrWire && err != api.ErrMesg || !reflect.DeepEqual(m, api.Message{})) {
			t.Fatal(b, m, err)
		}
	}
}

func TestBursts(t *testing.T) {
	r := rand.New(rand.NewSource(5))
	for range 3000 {
		b, _ := mesg.Bytes(random(r))
		from, turns := r.Intn(8*len(b)), r.Uint32()|1
		for i := range 32 {
			if at := from + i; at < 8*len(b) && turns>>i&1 == 1 {
				b[at/8] ^= 1 << (at % 8)
			}
		}
		if m, err := mesg.Parse(b); err == api.OK {
			t.Fatal("accepted", m)
		}
	}
}

// Same tells any two messages apart that are not the same in some one thing.
func TestSame(t *testing.T) {
	full := func() api.Message {
		return api.Message{
			Kind: 1, From: 2, Inc: 3, To: 4, Hops: 5, Origin: api.Mark{Node: 6, Inc: 7, Seq: 8},
			List:  []api.Desc{{Node: 1, Inc: 2, Age: 3, Filter: api.Filter{{From: 4, To: 5}, {From: 6, To: 7}}}, {Node: 9}},
			Table: []api.Member{{Inc: 1, State: 2, Quiet: 3}, {Inc: 4}},
			Event: api.Event{ID: api.ID{Node: 1, Inc: 2, Seq: 3}, Vals: []int32{4, 5}, Data: []byte{6, 7}},
			Marks: []api.Mark{{Node: 1, Inc: 2, Seq: 3}, {Node: 4}}, IDs: []api.ID{{Node: 1, Inc: 2, Seq: 3}, {Node: 4}},
		}
	}
	if !mesg.Same(full(), full()) || !mesg.Same(api.Message{}, api.Message{}) {
		t.Error("the same")
	}
	for i, change := range []func(*api.Message){
		func(m *api.Message) { m.Kind++ }, func(m *api.Message) { m.From++ }, func(m *api.Message) { m.Inc++ }, func(m *api.Message) { m.To++ }, func(m *api.Message) { m.Hops++ },
		func(m *api.Message) { m.Origin.Node++ }, func(m *api.Message) { m.Origin.Inc++ }, func(m *api.Message) { m.Origin.Seq++ },
		func(m *api.Message) { m.List[0].Node++ }, func(m *api.Message) { m.List[0].Inc++ }, func(m *api.Message) { m.List[0].Age++ }, func(m *api.Message) { m.List[0].Filter[1].To++ }, func(m *api.Message) { m.List[0].Filter[0].From++ },
		func(m *api.Message) { m.List[1].Filter = api.Filter{{}} }, func(m *api.Message) { m.List = m.List[:1] }, func(m *api.Message) { m.List = append(m.List, api.Desc{}) },
		func(m *api.Message) { m.Table[0].Inc++ }, func(m *api.Message) { m.Table[0].State++ }, func(m *api.Message) { m.Table[1].Quiet++ }, func(m *api.Message) { m.Table = m.Table[:1] },
		func(m *api.Message) { m.Event.ID.Node++ }, func(m *api.Message) { m.Event.ID.Inc++ }, func(m *api.Message) { m.Event.ID.Seq++ }, func(m *api.Message) { m.Event.Vals[1]++ }, func(m *api.Message) { m.Event.Vals = nil }, func(m *api.Message) { m.Event.Data[1]++ }, func(m *api.Message) { m.Event.Data = m.Event.Data[:1] },
		func(m *api.Message) { m.Marks[0].Node++ }, func(m *api.Message) { m.Marks[0].Inc++ }, func(m *api.Message) { m.Marks[1].Seq++ }, func(m *api.Message) { m.Marks = m.Marks[:1] },
		func(m *api.Message) { m.IDs[0].Node++ }, func(m *api.Message) { m.IDs[0].Inc++ }, func(m *api.Message) { m.IDs[1].Seq++ }, func(m *api.Message) { m.IDs = nil },
	} {
		m := full()
		change(&m)
		if mesg.Same(m, full()) || mesg.Same(full(), m) {
			t.Error(i, m)
		}
	}
}

func TestMemory(t *testing.T) {
	r := rand.New(rand.NewSource(6))
	for range 500 {
		m := random(r)
		b, _ := mesg.Bytes(m)
		kept := bytes.Clone(b)
		n, _ := mesg.Parse(b)
		for i := range n.List {
			for j := range n.List[i].Filter {
				n.List[i].Filter[j].From = math.MinInt32
			}
		}
		for i := range n.Event.Data {
			n.Event.Data[i] ^= 255
		}
		_ = append(n.Event.Data, 1, 2, 3)
		if !bytes.Equal(b, kept) {
			t.Fatal("shared")
		}
		b[0] = 99
		if again, _ := mesg.Bytes(m); !bytes.Equal(again, kept) {
			t.Fatal("shared")
		}
	}
}
