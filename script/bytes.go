package script

import (
	"iter"

	"grapevine/api"
	"grapevine/wire"
)

// steps yields the steps of b up to the first error, which it yields, too.
func steps(b []byte) iter.Seq2[api.Step, api.Errno] {
	return func(yield func(api.Step, api.Errno) bool) {
		r := &reader{b: b}
		for len(r.b) > 0 {
			x, err := r.step()
			if !yield(x, err) || err != api.OK {
				return
			}
		}
	}
}

// reader takes numbers from the front of b, till one of them is not there.
type reader struct {
	b   []byte
	bad bool
}

func (r *reader) step() (api.Step, api.Errno) {
	x := api.Step{Kind: r.byte()}
	f, ok := fieldsOf(x.Kind)
	if !ok {
		return api.Step{}, api.ErrWire
	}
	if f.node {
		x.Node = r.byte()
	}
	if f.other {
		x.Other = r.byte()
	}
	if f.at {
		x.At = r.index()
	}
	if f.to {
		x.To = r.index()
	}
	if f.from {
		x.From = r.index()
	}
	if f.turns {
		x.Turns = uint32(r.number(4))
	}
	if f.filter {
		x.Filter = r.filter()
	}
	if f.vals {
		x.Vals = r.values()
	}
	if f.data {
		x.Data = r.text()
	}
	if r.bad {
		return api.Step{}, api.ErrWire
	}
	if !Right(x) {
		return api.Step{}, api.ErrStep
	}
	return x, api.OK
}

// number hands over to wire no more than it takes, as that copies the rest.
func (r *reader) number(n int) uint64 {
	if r.bad || len(r.b) < n {
		r.bad = true
		return 0
	}
	x, _, _ := wire.Take(r.b[:n], n)
	r.b = r.b[n:]
	return x
}

func (r *reader) byte() uint8  { return uint8(r.number(1)) }
func (r *reader) index() int   { return int(r.number(2)) }
func (r *reader) value() int32 { return wire.Signed(r.number(4)) }

func (r *reader) filter() api.Filter {
	var f api.Filter
	for range r.byte() {
		f = append(f, api.Span{From: r.value(), To: r.value()})
	}
	return f
}

func (r *reader) values() []int32 {
	var l []int32
	for range r.byte() {
		l = append(l, r.value())
	}
	return l
}

func (r *reader) text() []byte {
	whole := r.b
	size := int(r.number(2))
	if r.bad || len(r.b) < size {
		r.bad = true
		return nil
	}
	text, _, _ := wire.TakeText(whole[:2+size], size)
	r.b = r.b[size:]
	return text
}

// put appends a number; b is never one that was handed in.
func put(b []byte, x uint64, n int) []byte {
	return append(b, wire.Put(nil, x, n)...)
}

func putStep(b []byte, f fields, x api.Step) []byte {
	b = put(b, uint64(x.Kind), 1)
	if f.node {
		b = put(b, uint64(x.Node), 1)
	}
	if f.other {
		b = put(b, uint64(x.Other), 1)
	}
	if f.at {
		b = put(b, uint64(x.At), 2)
	}
	if f.to {
		b = put(b, uint64(x.To), 2)
	}
	if f.from {
		b = put(b, uint64(x.From), 2)
	}
	if f.turns {
		b = put(b, uint64(x.Turns), 4)
	}
	if f.filter {
		b = putFilter(b, x.Filter)
	}
	if f.vals {
		b = putValues(b, x.Vals)
	}
	if f.data {
		b = append(b, wire.PutText(nil, x.Data)...)
	}
	return b
}

func putFilter(b []byte, f api.Filter) []byte {
	b = put(b, uint64(len(f)), 1)
	for _, s := range f {
		b = put(b, wire.Unsigned(s.From), 4)
		b = put(b, wire.Unsigned(s.To), 4)
	}
	return b
}

func putValues(b []byte, l []int32) []byte {
	b = put(b, uint64(len(l)), 1)
	for _, v := range l {
		b = put(b, wire.Unsigned(v), 4)
	}
	return b
}
