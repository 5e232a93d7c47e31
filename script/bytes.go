package script

import (
	"iter"

	"grapevine/api"
	"grapevine/cursor"
)

// steps yields the steps of b up to the first error, which it yields, too.
func steps(b []byte) iter.Seq2[api.Step, api.Errno] {
	return func(yield func(api.Step, api.Errno) bool) {
		r := &cursor.Reader{B: b}
		for len(r.B) > 0 {
			x, err := takeStep(r)
			if !yield(x, err) || err != api.OK {
				return
			}
		}
	}
}

func takeStep(r *cursor.Reader) (api.Step, api.Errno) {
	x := api.Step{Kind: r.Byte()}
	f, ok := fieldsOf(x.Kind)
	if !ok {
		return api.Step{}, api.ErrWire
	}
	if f.node {
		x.Node = r.Byte()
	}
	if f.other {
		x.Other = r.Byte()
	}
	if f.at {
		x.At = int(r.Short())
	}
	if f.to {
		x.To = int(r.Short())
	}
	if f.from {
		x.From = int(r.Short())
	}
	if f.turns {
		x.Turns = r.Long()
	}
	if f.filter {
		x.Filter = takeFilter(r)
	}
	if f.vals {
		x.Vals = takeValues(r)
	}
	if f.data {
		x.Data = r.Text()
	}
	if r.Bad {
		return api.Step{}, api.ErrWire
	}
	if !Right(x) {
		return api.Step{}, api.ErrStep
	}
	return x, api.OK
}

func takeFilter(r *cursor.Reader) api.Filter {
	var f api.Filter
	for range r.Byte() {
		f = append(f, api.Span{From: r.Value(), To: r.Value()})
	}
	return f
}

func takeValues(r *cursor.Reader) []int32 {
	var l []int32
	for range r.Byte() {
		l = append(l, r.Value())
	}
	return l
}

func putStep(b []byte, f fields, x api.Step) []byte {
	b = cursor.Put(b, uint64(x.Kind), 1)
	if f.node {
		b = cursor.Put(b, uint64(x.Node), 1)
	}
	if f.other {
		b = cursor.Put(b, uint64(x.Other), 1)
	}
	if f.at {
		b = cursor.Put(b, uint64(x.At), 2)
	}
	if f.to {
		b = cursor.Put(b, uint64(x.To), 2)
	}
	if f.from {
		b = cursor.Put(b, uint64(x.From), 2)
	}
	if f.turns {
		b = cursor.Put(b, uint64(x.Turns), 4)
	}
	if f.filter {
		b = putFilter(b, x.Filter)
	}
	if f.vals {
		b = putValues(b, x.Vals)
	}
	if f.data {
		b = cursor.PutText(b, x.Data)
	}
	return b
}

func putFilter(b []byte, f api.Filter) []byte {
	b = cursor.Put(b, uint64(len(f)), 1)
	for _, s := range f {
		b = cursor.PutValue(b, s.From)
		b = cursor.PutValue(b, s.To)
	}
	return b
}

func putValues(b []byte, l []int32) []byte {
	b = cursor.Put(b, uint64(len(l)), 1)
	for _, v := range l {
		b = cursor.PutValue(b, v)
	}
	return b
}
