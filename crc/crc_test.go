package crc_test

import (
	"bytes"
	"hash/crc32"
	"math/rand"
	"testing"

	"grapevine/api"
	"grapevine/crc"
)

// bitwise is the check sum as the chapter words it, bit by bit.
func bitwise(b []byte) uint32 {
	register := ^uint32(0)
	for _, x := range b {
		for i := range 8 {
			register ^= uint32(x>>i) & 1
			out := register & 1
			register >>= 1
			if out == 1 {
				register ^= 2197175160
			}
		}
	}
	return ^register
}

func random(r *rand.Rand, most int) []byte {
	b := make([]byte, r.Intn(most+1))
	r.Read(b)
	return b
}

func TestSum(t *testing.T) {
	if crc.Sum(nil) != 0 || crc.Sum([]byte{}) != 0 || crc.Sum([]byte("123456789")) != 3808858755 {
		t.Error(crc.Sum(nil), crc.Sum([]byte("123456789")))
	}
	for x := range 256 {
		if b := []byte{byte(x)}; crc.Sum(b) != bitwise(b) {
			t.Error(x, crc.Sum(b), bitwise(b))
		}
	}
	r := rand.New(rand.NewSource(1))
	for range 500 {
		b := random(r, 300)
		if crc.Sum(b) != bitwise(b) || crc.Sum(b) != crc32.Checksum(b, crc32.MakeTable(crc32.Castagnoli)) {
			t.Fatal(b)
		}
	}
}

func TestMore(t *testing.T) {
	r := rand.New(rand.NewSource(2))
	for range 500 {
		a, b := random(r, 60), random(r, 60)
		if crc.More(crc.Sum(a), b) != crc.Sum(append(append([]byte{}, a...), b...)) {
			t.Fatal(a, b)
		}
		sum := r.Uint32() // any sum: four bytes that lead to it are found backwards
		lead := leading(sum)
		if bitwise(lead) != sum || crc.More(sum, b) != bitwise(append(lead, b...)) {
			t.Fatal(sum, lead, b)
		}
	}
	if crc.More(7, nil) != 7 || crc.More(1<<32-1, nil) != 1<<32-1 {
		t.Error("nothing more")
	}
}

// leading returns four bytes whose check sum is that.
func leading(sum uint32) []byte {
	register := ^sum
	for range 32 {
		if register>>31 == 1 {
			register = (register^2197175160)<<1 | 1
		} else {
			register <<= 1
		}
	}
	register = ^register
	return []byte{byte(register), byte(register >> 8), byte(register >> 16), byte(register >> 24)}
}

func TestSeal(t *testing.T) {
	if got := crc.Seal(nil); !bytes.Equal(got, []byte{0, 0, 0, 0}) {
		t.Error(got)
	}
	if got := crc.Seal([]byte("123456789")); !bytes.Equal(got, append([]byte("123456789"), 0x83, 0x92, 0x06, 0xe3)) {
		t.Error(got)
	}
	r := rand.New(rand.NewSource(3))
	for range 300 {
		b := random(r, 100)
		sealed, sum := crc.Seal(b), bitwise(b)
		if !bytes.Equal(sealed, append(append([]byte{}, b...), byte(sum), byte(sum>>8), byte(sum>>16), byte(sum>>24))) {
			t.Fatal(b, sealed)
		}
		if got, err := crc.Open(sealed); err != api.OK || !bytes.Equal(got, b) {
			t.Fatal(b, got, err)
		}
	}
}

func TestOpenWrong(t *testing.T) {
	for _, b := range [][]byte{nil, {0}, {0, 0, 0}, {1, 2, 3}, {1, 0, 0, 0}, {0, 0, 0, 1}, {0, 0, 0, 0, 0}, append([]byte("123456789"), 0xe3, 0x06, 0x92, 0x83)} {
		if got, err := crc.Open(b); err != api.ErrSum || len(got) != 0 {
			t.Error(b, got, err)
		}
	}
	if got, err := crc.Open([]byte{0, 0, 0, 0}); err != api.OK || len(got) != 0 {
		t.Error(got, err)
	}
}

// Whatever bits within 32 neighbouring ones are inverted is noticed.
func TestBursts(t *testing.T) {
	r := rand.New(rand.NewSource(4))
	for range 3000 {
		b := crc.Seal(random(r, 40))
		from := r.Intn(8 * len(b))
		turns := r.Uint32()
		if r.Intn(2) == 0 {
			turns = 1 << r.Intn(32)
		}
		turned := false
		for i := range 32 {
			if at := from + i; at < 8*len(b) && turns>>i&1 == 1 {
				b[at/8] ^= 1 << (at % 8)
				turned = true
			}
		}
		if got, err := crc.Open(b); turned && (err != api.ErrSum || len(got) != 0) {
			t.Fatal(b, from, turns, got, err)
		}
	}
}

func TestMemory(t *testing.T) {
	all := []byte{1, 2, 3, 77, 77, 77, 77, 77}
	b := all[:3]
	sealed := crc.Seal(b)
	if !bytes.Equal(all, []byte{1, 2, 3, 77, 77, 77, 77, 77}) {
		t.Error("behind the argument", all)
	}
	kept := append([]byte{}, sealed...)
	got, _ := crc.Open(sealed)
	got[0] = 99
	_ = append(got, 5)
	if !bytes.Equal(sealed, kept) || b[0] != 1 {
		t.Error("shared", sealed, b)
	}
	sealed[0] = 98
	if b[0] != 1 {
		t.Error("shared", b)
	}
}
