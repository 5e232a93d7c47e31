package script_test

import (
	"bytes"
	"encoding/binary"
	"math"
	"math/rand"
	"reflect"
	"slices"
	"testing"

	"grapevine/api"
	"grapevine/script"
)

// The fields of each kind, in the order of their bytes: n node, o other, a at, t to, f from, u turns, F filter, V vals, D data.
var fields = map[uint8]string{
	api.StepTick: "n", api.StepUnsubscribe: "n", api.StepLeave: "n", api.StepCrash: "n", api.StepStart: "n", api.StepDeliver: "a", api.StepDrop: "a", api.StepDouble: "a",
	api.StepBend: "afu", api.StepMove: "at", api.StepSubscribe: "nF", api.StepPublish: "nVD", api.StepJoin: "no",
}

func values(b []byte, l ...int32) []byte {
	for _, v := range l {
		b = binary.BigEndian.AppendUint32(b, uint32(int64(v)+1<<31))
	}
	return b
}

// plain is the bytes of a step by the chapter's words, whether it is right or not.
func plain(x api.Step) []byte {
	b := []byte{x.Kind}
	for _, f := range fields[x.Kind] {
		switch f {
		case 'n':
			b = append(b, x.Node)
		case 'o':
			b = append(b, x.Other)
		case 'a':
			b = binary.BigEndian.AppendUint16(b, uint16(x.At))
		case 't':
			b = binary.BigEndian.AppendUint16(b, uint16(x.To))
		case 'f':
			b = binary.BigEndian.AppendUint16(b, uint16(x.From))
		case 'u':
			b = binary.BigEndian.AppendUint32(b, x.Turns)
		case 'F':
			b = append(b, byte(len(x.Filter)))
			for _, s := range x.Filter {
				b = values(b, s.From, s.To)
			}
		case 'V':
			b = values(append(b, byte(len(x.Vals))), x.Vals...)
		case 'D':
			b = append(binary.BigEndian.AppendUint16(b, uint16(len(x.Data))), x.Data...)
		}
	}
	return b
}

// random is a right step of any kind.
func random(r *rand.Rand) api.Step {
	x := api.Step{Kind: uint8(1 + r.Intn(13))}
	index := func() int { return []int{0, 65535, r.Intn(65536)}[r.Intn(3)] }
	for _, f := range fields[x.Kind] {
		switch f {
		case 'n':
			x.Node = uint8(r.Intn(12))
		case 'o':
			x.Other = uint8(r.Intn(12))
		case 'a':
			x.At = index()
		case 't':
			x.To = index()
		case 'f':
			x.From = index()
		case 'u':
			x.Turns = r.Uint32()
		case 'F':
			for range r.Intn(5) {
				x.Filter = append(x.Filter, api.Span{From: int32(r.Uint32()), To: int32(r.Uint32())})
			}
		case 'V':
			for range r.Intn(5) {
				x.Vals = append(x.Vals, int32(r.Uint32()))
			}
		case 'D':
			x.Data = make([]byte, []int{0, 64, r.Intn(65)}[r.Intn(3)])
			r.Read(x.Data)
		}
	}
	return x
}

func TestExamples(t *testing.T) {
	for i, c := range []struct {
		x    api.Step
		want []byte
	}{
		{api.Step{Kind: api.StepTick, Node: 3}, []byte{1, 3}}, {api.Step{Kind: api.StepMove, At: 1}, []byte{6, 0, 1, 0, 0}}, {api.Step{Kind: api.StepPublish, Vals: []int32{-1}, Data: []byte("h")}, []byte{9, 0, 1, 127, 255, 255, 255, 0, 1, 104}},
		{api.Step{Kind: api.StepBend, At: 258, From: 772, Turns: 84281096}, []byte{5, 1, 2, 3, 4, 5, 6, 7, 8}}, {api.Step{Kind: api.StepJoin, Node: 1, Other: 2}, []byte{10, 1, 2}}, {api.Step{Kind: api.StepSubscribe, Node: 1, Filter: api.Filter{{From: 0, To: -2147483648}}}, []byte{7, 1, 1, 128, 0, 0, 0, 0, 0, 0, 0}},
	} {
		if b, err := script.Bytes([]api.Step{c.x}); err != api.OK || !bytes.Equal(b, c.want) {
			t.Error(i, b, err)
		}
		if l, err := script.Parse(c.want); err != api.OK || !script.Same(l, []api.Step{c.x}) {
			t.Error(i, l, err)
		}
	}
	for i, c := range []struct {
		b   []byte
		err api.Errno
	}{
		{[]byte{1, 3, 2, 0}, api.ErrWire}, {[]byte{1, 12}, api.ErrStep}, {[]byte{14, 0}, api.ErrWire}, {[]byte{0}, api.ErrWire}, {[]byte{255, 1, 1}, api.ErrWire}, {[]byte{1}, api.ErrWire}, {[]byte{1, 3, 1}, api.ErrWire},
		{[]byte{1, 12, 14}, api.ErrStep}, {[]byte{14, 1, 12}, api.ErrWire}, {[]byte{1, 3, 10, 1, 12}, api.ErrStep}, {[]byte{9, 0, 0, 0, 65}, api.ErrWire}, {[]byte{9, 12, 0, 0, 1}, api.ErrWire},
		{append([]byte{9, 0, 0, 0, 65}, make([]byte, 65)...), api.ErrStep}, {append([]byte{9, 0, 0, 255, 255}, make([]byte, 65535)...), api.ErrStep}, {append([]byte{9, 0, 5}, make([]byte, 22)...), api.ErrStep}, {append([]byte{7, 0, 5}, make([]byte, 40)...), api.ErrStep}, {append([]byte{7, 0, 255}, make([]byte, 2040)...), api.ErrStep}, {append([]byte{7, 0, 255}, make([]byte, 2039)...), api.ErrWire},
	} {
		if l, err := script.Parse(c.b); err != c.err || len(l) != 0 {
			t.Error(i, l, err)
		}
	}
	if l, err := script.Parse(nil); err != api.OK || len(l) != 0 {
		t.Error(l, err)
	}
	if b, err := script.Bytes(nil); err != api.OK || len(b) != 0 {
		t.Error(b, err)
	}
	if b, err := script.Bytes([]api.Step{{Kind: api.StepTick}, {Kind: api.StepTick, At: 1}}); err != api.ErrStep || len(b) != 0 {
		t.Error(b, err)
	}
}

func TestRight(t *testing.T) {
	wrong := map[byte][]func(*api.Step){
		' ': {func(x *api.Step) { x.Kind = 0 }, func(x *api.Step) { x.Kind = 14 }, func(x *api.Step) { x.Kind = 255 }},
		'n': {func(x *api.Step) { x.Node = 12 }, func(x *api.Step) { x.Node = 255 }}, 'o': {func(x *api.Step) { x.Other = 12 }},
		'a': {func(x *api.Step) { x.At = -1 }, func(x *api.Step) { x.At = 65536 }, func(x *api.Step) { x.At = math.MinInt }}, 't': {func(x *api.Step) { x.To = -1 }, func(x *api.Step) { x.To = 65536 }}, 'f': {func(x *api.Step) { x.From = -1 }, func(x *api.Step) { x.From = 65536 }, func(x *api.Step) { x.From = math.MaxInt }},
		'F': {func(x *api.Step) { x.Filter = make(api.Filter, 5) }}, 'V': {func(x *api.Step) { x.Vals = make([]int32, 5) }}, 'D': {func(x *api.Step) { x.Data = make([]byte, 65) }},
	}
	foreign := map[byte]func(*api.Step){
		'n': func(x *api.Step) { x.Node = 1 }, 'o': func(x *api.Step) { x.Other = 1 }, 'a': func(x *api.Step) { x.At = 1 }, 't': func(x *api.Step) { x.To = 1 }, 'f': func(x *api.Step) { x.From = 1 },
		'u': func(x *api.Step) { x.Turns = 1 }, 'F': func(x *api.Step) { x.Filter = api.Filter{{}} }, 'V': func(x *api.Step) { x.Vals = []int32{0} }, 'D': func(x *api.Step) { x.Data = []byte{0} },
	}
	r := rand.New(rand.NewSource(1))
	for range 2000 {
		x := random(r)
		if !script.Right(x) {
			t.Fatal("right", x)
		}
		for f, l := range wrong {
			for i, change := range l {
				y := x
				if change(&y); (f == ' ' || slices.Contains([]byte(fields[x.Kind]), f)) && script.Right(y) {
					t.Fatal("wrong", string(f), i, y)
				}
			}
		}
		for f, set := range foreign {
			y := x
			if set(&y); script.Right(y) != slices.Contains([]byte(fields[x.Kind]), f) {
				t.Fatal("foreign", string(f), y)
			}
		}
	}
	if script.Right(api.Step{}) || !script.Right(api.Step{Kind: api.StepTick, Filter: api.Filter{}, Vals: []int32{}, Data: []byte{}}) {
		t.Error("an empty list is none")
	}
}

func TestAtRandom(t *testing.T) {
	r := rand.New(rand.NewSource(2))
	for range 1500 {
		var l []api.Step
		var want []byte
		for range r.Intn(6) {
			x := random(r)
			l, want = append(l, x), append(want, plain(x)...)
		}
		b, err := script.Bytes(l)
		if err != api.OK || !bytes.Equal(b, want) {
			t.Fatal(l, b, err)
		}
		got, err := script.Parse(b)
		if err != api.OK || !script.Same(got, l) || len(got) != len(l) {
			t.Fatal(l, got, err)
		}
		if len(l) == 0 {
			continue
		}
		last := plain(l[len(l)-1])
		if got, err := script.Parse(b[:len(b)-1-r.Intn(len(last)-1)]); err != api.ErrWire || len(got) != 0 {
			t.Fatal("cut", l, got, err)
		}
		at := r.Intn(len(l))
		l[at].Node = 12
		if b, err := script.Bytes(l); err != api.ErrStep || len(b) != 0 {
			t.Fatal(l, b, err)
		}
	}
}

func TestParseNoise(t *testing.T) {
	r := rand.New(rand.NewSource(3))
	for range 20000 {
		b := make([]byte, r.Intn(20))
		for i := range b {
			b[i] = byte(r.Intn(15))
		}
		l, err := script.Parse(b)
		var again []byte
		for _, x := range l {
			again = append(again, plain(x)...)
			if !script.Right(x) {
				t.Fatal("not right", b, x)
			}
		}
		if err == api.OK && !bytes.Equal(again, b) || err != api.OK && (err != api.ErrWire && err != api.ErrStep || len(l) != 0) {
			t.Fatal(b, l, err)
		}
	}
}

func TestSame(t *testing.T) {
	full := func() []api.Step {
		return []api.Step{{Kind: 1, Node: 2, Other: 3, At: 4, To: 5, From: 6, Turns: 7, Filter: api.Filter{{From: 8, To: 9}}, Vals: []int32{10}, Data: []byte{11}}, {}}
	}
	if !script.Same(full(), full()) || !script.Same(nil, []api.Step{}) || !script.Same([]api.Step{{}}, []api.Step{{Filter: api.Filter{}, Vals: []int32{}, Data: []byte{}}}) {
		t.Error("the same")
	}
	for i, change := range []func(*api.Step){
		func(x *api.Step) { x.Kind++ }, func(x *api.Step) { x.Node++ }, func(x *api.Step) { x.Other++ }, func(x *api.Step) { x.At++ }, func(x *api.Step) { x.To++ }, func(x *api.Step) { x.From++ }, func(x *api.Step) { x.Turns++ },
		func(x *api.Step) { x.Filter[0].From++ }, func(x *api.Step) { x.Filter[0].To++ }, func(x *api.Step) { x.Filter = nil }, func(x *api.Step) { x.Vals[0]++ }, func(x *api.Step) { x.Vals = append(x.Vals, 0) }, func(x *api.Step) { x.Data[0]++ }, func(x *api.Step) { x.Data = nil },
	} {
		l := full()
		change(&l[0])
		if script.Same(l, full()) || script.Same(full(), l) {
			t.Error(i)
		}
	}
	if script.Same(full(), full()[:1]) || script.Same(full()[:1], full()) {
		t.Error("a shorter list")
	}
}

// A long script is read in one go.
func TestLong(t *testing.T) {
	x := api.Step{Kind: api.StepPublish, Vals: []int32{1, 2}, Data: []byte("abc")}
	l := make([]api.Step, 50000)
	for i := range l {
		l[i] = x
	}
	b, err := script.Bytes(l)
	got, also := script.Parse(b)
	if err != api.OK || also != api.OK || !script.Same(got, l) {
		t.Error(err, also, len(got))
	}
}

func TestMemory(t *testing.T) {
	x := api.Step{Kind: api.StepPublish, Vals: []int32{1, 2}, Data: []byte("abc")}
	b, _ := script.Bytes([]api.Step{x, x})
	kept := bytes.Clone(b)
	l, _ := script.Parse(b)
	l[0].Data[0], l[0].Vals[0] = 99, 99
	_ = append(l[0].Data, 98, 98, 98)
	if !bytes.Equal(b, kept) || !reflect.DeepEqual(l[1], x) {
		t.Error("shared", b, l)
	}
	b[0] = 99
	if x.Data[0] != 'a' {
		t.Error("shared", x)
	}
}
