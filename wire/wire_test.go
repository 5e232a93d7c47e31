package wire_test

import (
	"bytes"
	"math"
	"math/rand"
	"testing"

	"grapevine/wire"
)

// roomy returns l with spare capacity that is filled with 77s, and a function that tells whether that is untouched.
func roomy(l ...byte) ([]byte, func() bool) {
	all := append(append([]byte{}, l...), bytes.Repeat([]byte{77}, 80)...)
	return all[:len(l)], func() bool {
		return bytes.Equal(all[:len(l)], l) && bytes.Equal(all[len(l):], bytes.Repeat([]byte{77}, 80))
	}
}

func TestPutExamples(t *testing.T) {
	for _, c := range []struct {
		b    []byte
		x    uint64
		n    int
		want []byte
	}{
		{nil, 258, 2, []byte{1, 2}},
		{nil, 258, 1, []byte{2}},
		{[]byte{7}, 1, 9, []byte{7}},
		{[]byte{7}, 1, 0, []byte{7}},
		{[]byte{7}, 1, -1, []byte{7}},
		{[]byte{7}, 1, math.MaxInt, []byte{7}},
		{[]byte{7}, 1, math.MinInt, []byte{7}},
		{[]byte{9}, 1 << 63, 8, []byte{9, 128, 0, 0, 0, 0, 0, 0, 0}},
		{nil, math.MaxUint64, 8, bytes.Repeat([]byte{255}, 8)},
		{nil, 0x0102030405060708, 8, []byte{1, 2, 3, 4, 5, 6, 7, 8}},
		{nil, 0x0102030405060708, 7, []byte{2, 3, 4, 5, 6, 7, 8}},
		{nil, 0x0102030405060708, 3, []byte{6, 7, 8}},
		{nil, 0, 4, []byte{0, 0, 0, 0}},
	} {
		if got := wire.Put(c.b, c.x, c.n); !bytes.Equal(got, c.want) {
			t.Errorf("Put(%v, %d, %d) = %v, want %v", c.b, c.x, c.n, got, c.want)
		}
	}
}

func TestTakeExamples(t *testing.T) {
	long := []byte{1, 2, 3, 4, 5, 6, 7, 8, 9}
	for _, c := range []struct {
		b    []byte
		n    int
		x    uint64
		rest []byte
		ok   bool
	}{
		{[]byte{1, 2, 3}, 2, 258, []byte{3}, true},
		{[]byte{1}, 2, 0, nil, false},
		{nil, 1, 0, nil, false},
		{long, 0, 0, nil, false},
		{long, -1, 0, nil, false},
		{long, 9, 0, nil, false},
		{long, math.MaxInt, 0, nil, false},
		{long, math.MinInt, 0, nil, false},
		{long, 8, 0x0102030405060708, []byte{9}, true},
		{long[:8], 8, 0x0102030405060708, nil, true},
		{long[:7], 8, 0, nil, false},
		{[]byte{255}, 1, 255, nil, true},
	} {
		x, rest, ok := wire.Take(c.b, c.n)
		if x != c.x || !bytes.Equal(rest, c.rest) || ok != c.ok {
			t.Errorf("Take(%v, %d) = %d, %v, %v", c.b, c.n, x, rest, ok)
		}
	}
}

func TestPutText(t *testing.T) {
	if got := wire.PutText(nil, []byte("ab")); !bytes.Equal(got, []byte{0, 2, 97, 98}) {
		t.Error(got)
	}
	if got := wire.PutText([]byte{5}, nil); !bytes.Equal(got, []byte{5, 0, 0}) {
		t.Error(got)
	}
	if got := wire.PutText([]byte{5}, make([]byte, 65536)); !bytes.Equal(got, []byte{5}) {
		t.Error("too long: ", len(got))
	}
	text := bytes.Repeat([]byte{0, 255, 10}, 21845)
	if got := wire.PutText([]byte{5}, text); !bytes.Equal(got, append([]byte{5, 255, 255}, text...)) {
		t.Error("longest: ", len(got))
	}
}

func TestTakeText(t *testing.T) {
	for _, c := range []struct {
		b          []byte
		most       int
		text, rest []byte
		ok         bool
	}{
		{[]byte{0, 2, 97, 98, 9}, 2, []byte("ab"), []byte{9}, true},
		{[]byte{0, 2, 97, 98, 9}, 1, nil, nil, false},
		{[]byte{0, 2, 97, 98, 9}, math.MaxInt, []byte("ab"), []byte{9}, true},
		{[]byte{0, 2, 97, 98}, 3, []byte("ab"), nil, true},
		{[]byte{0, 2, 97}, 9, nil, nil, false},
		{[]byte{0, 3, 1, 2}, 9, nil, nil, false},
		{[]byte{0, 0, 5}, 0, nil, []byte{5}, true},
		{[]byte{0, 0}, 0, nil, nil, true},
		{[]byte{0, 0}, -1, nil, nil, false},
		{[]byte{0, 0}, math.MinInt, nil, nil, false},
		{[]byte{0}, 9, nil, nil, false},
		{nil, 9, nil, nil, false},
		{[]byte{1, 0}, 1000, nil, nil, false},
	} {
		text, rest, ok := wire.TakeText(c.b, c.most)
		if !bytes.Equal(text, c.text) || !bytes.Equal(rest, c.rest) || ok != c.ok {
			t.Errorf("TakeText(%v, %d) = %v, %v, %v", c.b, c.most, text, rest, ok)
		}
	}
	long := append([]byte{1, 4}, make([]byte, 300)...)
	if text, rest, ok := wire.TakeText(long, 260); len(text) != 260 || len(rest) != 40 || !ok {
		t.Error("length of two bytes", len(text), len(rest), ok)
	}
	whole := wire.PutText(nil, make([]byte, 65535))
	if text, rest, ok := wire.TakeText(whole, 65535); len(text) != 65535 || len(rest) != 0 || !ok {
		t.Error("longest", len(text), len(rest), ok)
	}
	if text, rest, ok := wire.TakeText(whole, 65534); len(text) != 0 || len(rest) != 0 || ok {
		t.Error("one too many", len(text), len(rest), ok)
	}
}

func TestSigns(t *testing.T) {
	for x, want := range map[int32]uint64{-1: 2147483647, 0: 1 << 31, 1: 1<<31 + 1, math.MinInt32: 0, math.MaxInt32: 1<<32 - 1} {
		if got := wire.Unsigned(x); got != want {
			t.Errorf("Unsigned(%d) = %d", x, got)
		}
		for _, high := range []uint64{0, 1 << 32, 1 << 40, 1<<64 - 1<<32} {
			if got := wire.Signed(want | high); got != x {
				t.Errorf("Signed(%d) = %d, want %d", want|high, got, x)
			}
		}
	}
	if wire.Signed(0) != -2147483648 {
		t.Error("Signed(0)")
	}
}

// What was put is taken as the same, and the rest stays; greater numbers have greater bytes.
func TestConsequences(t *testing.T) {
	r := rand.New(rand.NewSource(1))
	for range 3000 {
		n := 1 + r.Intn(8)
		x, y := r.Uint64()>>(64-8*n), r.Uint64()>>(64-8*n)
		if r.Intn(3) == 0 {
			y = x ^ 1<<r.Intn(8*n)
		}
		rest := make([]byte, r.Intn(4))
		r.Read(rest)
		bx, by := wire.Put(nil, x, n), wire.Put(nil, y, n)
		if len(bx) != n {
			t.Fatal("length", len(bx), n)
		}
		got, left, ok := wire.Take(append(bx, rest...), n)
		if got != x || !bytes.Equal(left, rest) || !ok {
			t.Fatal(got, left, ok)
		}
		if (x < y) != (bytes.Compare(bx, by) < 0) || (x == y) != bytes.Equal(bx, by) {
			t.Fatal("order", x, y, bx, by)
		}
		a, b := int32(r.Uint32()), int32(r.Uint32())
		if (a < b) != (wire.Unsigned(a) < wire.Unsigned(b)) || wire.Signed(wire.Unsigned(a)) != a {
			t.Fatal("signs", a, b)
		}
		text := make([]byte, r.Intn(400))
		r.Read(text)
		s, left, ok := wire.TakeText(append(wire.PutText(nil, text), rest...), len(text))
		if !bytes.Equal(s, text) || !bytes.Equal(left, rest) || !ok {
			t.Fatal("text", s, left, ok)
		}
	}
}

// Results are in memory of their own, and arguments stay, with what lies behind them.
func TestMemory(t *testing.T) {
	b, untouched := roomy(0, 1, 9, 8)
	text, same := roomy(5, 6)
	outs := [][]byte{wire.Put(b, 1, 2), wire.Put(b, 1, 9), wire.PutText(b, text), wire.PutText(b, make([]byte, 65536))}
	_, rest, _ := wire.Take(b, 2)
	s, left, _ := wire.TakeText(b, 9)
	outs = append(outs, rest, s, left)
	for _, o := range outs {
		for i := range o[:cap(o)] {
			o[:cap(o)][i] ^= 255
		}
	}
	if !untouched() || !same() {
		t.Error("an argument changed", b, text)
	}
	s, left, _ = wire.TakeText(b, 9)
	s = append(s, 1, 2, 3)
	if !bytes.Equal(left, []byte{8}) {
		t.Error("the text and the rest share memory", s, left)
	}
}
