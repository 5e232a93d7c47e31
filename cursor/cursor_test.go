package cursor_test

import (
	"bytes"
	"math"
	"testing"

	"grapevine/cursor"
)

func TestThereAndBack(t *testing.T) {
	b := cursor.Put(nil, 7, 1)
	b = cursor.Put(b, 258, 2)
	b = cursor.Put(b, math.MaxUint32, 4)
	b = cursor.PutValue(b, -5)
	b = cursor.PutText(b, []byte("abc"))
	b = cursor.PutText(b, nil)
	r := cursor.Reader{B: b}
	if r.Byte() != 7 || r.Short() != 258 || r.Long() != math.MaxUint32 || r.Value() != -5 || string(r.Text()) != "abc" || len(r.Text()) != 0 || r.Bad || len(r.B) != 0 {
		t.Error(r)
	}
	if r.Byte() != 0 || !r.Bad {
		t.Error("nothing is left", r)
	}
}

// What is cut short is bad, and stays so.
func TestBad(t *testing.T) {
	for i, b := range [][]byte{nil, {0}, {0, 2}, {0, 2, 1}, {255, 255, 1, 1}} {
		r := cursor.Reader{B: b}
		if got := r.Text(); len(got) != 0 || !r.Bad {
			t.Error(i, got, r)
		}
		if got := r.Number(1); got != 0 || !r.Bad {
			t.Error(i, "still", got)
		}
	}
	r := cursor.Reader{B: []byte{1, 2, 3}}
	if r.Long(); !r.Bad || r.Byte() != 0 || !r.Bad {
		t.Error(r)
	}
}

func TestMemory(t *testing.T) {
	b := []byte{0, 2, 8, 9, 5}
	kept := bytes.Clone(b)
	r := cursor.Reader{B: b}
	text := r.Text()
	text[0] = 99
	_ = append(text, 98)
	if !bytes.Equal(b, kept) {
		t.Error("shared", b)
	}
}
