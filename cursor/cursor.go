// Package cursor reads and writes one number after the other by package wire, for packages mesg and script.
package cursor

import "grapevine/wire"

// Reader takes numbers from the front of B, till one of them is not there: then it is Bad, and what it returns says nothing.
type Reader struct {
	B   []byte
	Bad bool
}

// Number takes a number of n bytes. It hands over to wire no more than these, as wire copies the rest.
func (r *Reader) Number(n int) uint64 {
	if r.Bad || len(r.B) < n {
		r.Bad = true
		return 0
	}
	x, _, _ := wire.Take(r.B[:n], n)
	r.B = r.B[n:]
	return x
}

// Byte takes a number of one byte.
func (r *Reader) Byte() uint8 {
	return uint8(r.Number(1))
}

// Short takes a number of two bytes.
func (r *Reader) Short() uint16 {
	return uint16(r.Number(2))
}

// Long takes a number of four bytes.
func (r *Reader) Long() uint32 {
	return uint32(r.Number(4))
}

// Value takes a number that may be below 0.
func (r *Reader) Value() int32 {
	return wire.Signed(r.Number(4))
}

// Text takes a text, of any length.
func (r *Reader) Text() []byte {
	whole := r.B
	size := int(r.Number(2))
	if r.Bad || len(r.B) < size {
		r.Bad = true
		return nil
	}
	text, _, _ := wire.TakeText(whole[:2+size], size)
	r.B = r.B[size:]
	return text
}

// Put appends a number of n bytes to b, which is the caller's own.
func Put(b []byte, x uint64, n int) []byte {
	return append(b, wire.Put(nil, x, n)...)
}

// PutValue appends a number that may be below 0.
func PutValue(b []byte, v int32) []byte {
	return Put(b, wire.Unsigned(v), 4)
}

// PutText appends a text.
func PutText(b, text []byte) []byte {
	return append(b, wire.PutText(nil, text)...)
}
