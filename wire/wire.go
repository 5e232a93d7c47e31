// Package wire encodes numbers and texts as bytes, in big-endian order (layer 1: see shared/doc/01-wire.md).
package wire

const (
	mostBytes = 8     // of a number
	mostText  = 65535 // what two bytes of a length can tell
)

// Put returns b followed by the lowest n bytes of x, the highest one first.
func Put(b []byte, x uint64, n int) []byte {
	out := own(b)
	if !within(1, mostBytes)(n) {
		return out
	}
	for i := range n {
		out = append(out, byte(x>>(8*(n-1-i))))
	}
	return out
}

// Take returns the number that the first n bytes of b are, and the rest.
func Take(b []byte, n int) (uint64, []byte, bool) {
	if !within(1, min(mostBytes, len(b)))(n) {
		return 0, nil, false
	}
	var x uint64
	for i := range n {
		x = x<<8 | uint64(b[i])
	}
	return x, own(b[n:]), true
}

// PutText returns b followed by the length of the text, and its bytes.
func PutText(b, text []byte) []byte {
	if !within(0, mostText)(len(text)) {
		return own(b)
	}
	return append(Put(b, uint64(len(text)), 2), text...)
}

// TakeText returns the text that b begins with, and the rest.
func TakeText(b []byte, most int) ([]byte, []byte, bool) {
	if len(b) < 2 {
		return nil, nil, false
	}
	size := int(b[0])<<8 | int(b[1])
	if !within(0, min(most, len(b)-2))(size) {
		return nil, nil, false
	}
	return own(b[2 : 2+size]), own(b[2+size:]), true
}

// Unsigned moves x so that greater numbers have greater bytes, also below 0.
func Unsigned(x int32) uint64 {
	return uint64(int64(x) + 1<<31)
}

// Signed undoes Unsigned, for the lowest 32 bits of x.
func Signed(x uint64) int32 {
	return int32(uint32(x) - 1<<31)
}

// within tells which counts are allowed: those from least to most.
func within(least, most int) func(int) bool {
	return func(n int) bool {
		return least <= n && n <= most
	}
}

// own copies b, so that no result shares memory with an argument.
func own(b []byte) []byte {
	return append([]byte(nil), b...)
}
