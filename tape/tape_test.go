package tape_test

import (
	"math"
	"math/rand"
	"slices"
	"testing"

	"grapevine/api"
	"grapevine/tape"
)

func of(at int, nums ...uint32) api.Tape { return api.Tape{Nums: nums, At: at} }

func same(a, b api.Tape) bool { return a.At == b.At && slices.Equal(a.Nums, b.Nums) }

func TestDraw(t *testing.T) {
	for i, c := range []struct {
		t    api.Tape
		n    int
		want int
		at   int
	}{
		{of(0, 5, 7, 9), 4, 1, 1}, {of(1, 5, 7, 9), 4, 3, 2}, {of(2, 5, 7, 9), 4, 1, 0}, {of(7, 5, 7, 9), 4, 1, 1}, {of(3, 5, 7, 9), 4, 1, 1}, {of(-1, 5, 7, 9), 4, 1, 1}, {of(math.MinInt, 5, 7, 9), 9, 5, 1}, {of(math.MaxInt, 5, 7, 9), 9, 5, 1},
		{of(0, 5, 7, 9), 0, 0, 0}, {of(2, 5, 7, 9), 0, 0, 2}, {of(2, 5, 7, 9), -4, 0, 2}, {of(2, 5, 7, 9), math.MinInt, 0, 2}, {of(5, 5, 7, 9), 0, 0, 0},
		{of(0), 4, 0, 0}, {of(3), 4, 0, 0}, {of(-3), 0, 0, 0}, {of(0, 8), 5, 3, 0}, {of(0, math.MaxUint32), math.MaxInt, math.MaxUint32, 0}, {of(0, math.MaxUint32, 1), 1 << 31, 1<<31 - 1, 1}, {of(1, 5, 7), 1, 0, 0},
	} {
		if got, next := tape.Draw(c.t, c.n); got != c.want || !same(next, of(c.at, c.t.Nums...)) {
			t.Error(i, got, next)
		}
	}
}

func TestSome(t *testing.T) {
	for i, c := range []struct {
		t    api.Tape
		many int
		want []uint32
		at   int
	}{
		{of(1, 5, 7, 9), 3, []uint32{7, 9, 5}, 1}, {of(1, 5, 7, 9), 1, []uint32{7}, 2}, {of(2, 5, 7, 9), 5, []uint32{9, 5, 7, 9, 5}, 1}, {of(7, 5, 7, 9), 2, []uint32{5, 7}, 2}, {of(-7, 5, 7, 9), 2, []uint32{5, 7}, 2},
		{of(1, 5, 7, 9), 0, nil, 1}, {of(8, 5, 7, 9), 0, nil, 0}, {of(1, 5, 7, 9), -1, nil, 1}, {of(1, 5, 7, 9), math.MinInt, nil, 1},
		{of(0), 2, []uint32{0, 0}, 0}, {of(9), 1, []uint32{0}, 0}, {of(0, 4), 3, []uint32{4, 4, 4}, 0},
	} {
		if got, next := tape.Some(c.t, c.many); !slices.Equal(got, c.want) || !same(next, of(c.at, c.t.Nums...)) {
			t.Error(i, got, next)
		}
	}
	for _, many := range []int{1000, 1001, math.MaxInt} {
		got, next := tape.Some(of(0, 1, 2, 3), many)
		if len(got) != 1000 || got[999] != 1 || next.At != 1 {
			t.Error(many, len(got), next)
		}
	}
	if got, _ := tape.Some(of(0, 1, 2, 3), 999); len(got) != 999 {
		t.Error(len(got))
	}
}

// Draws one by one, and several at once, give the same; after as many as there are the tape is where it was.
func TestConsequences(t *testing.T) {
	r := rand.New(rand.NewSource(1))
	for range 1000 {
		nums := make([]uint32, r.Intn(6))
		for i := range nums {
			nums[i] = r.Uint32()
		}
		start := of(r.Intn(8)-1, nums...)
		many := r.Intn(12)
		all, behind := tape.Some(start, many)
		_, one := tape.Draw(start, 0)
		at := one.At
		for i := range many {
			n := 1 + r.Intn(1<<20)
			got, next := tape.Draw(one, n)
			if got < 0 || got >= n || uint64(got) != uint64(all[i])%uint64(n) {
				t.Fatal(start, i, got, all)
			}
			one = next
		}
		if many > 0 && !same(one, behind) || many == 0 && behind.At != at {
			t.Fatal(start, one, behind)
		}
		if _, round := tape.Some(start, len(nums)); round.At != at {
			t.Fatal("not where it was", start, round)
		}
	}
}

func TestMemory(t *testing.T) {
	nums := []uint32{5, 7, 9, 77, 77}
	tp := of(0, nums[:3]...)
	_, a := tape.Draw(tp, 4)
	_, b := tape.Draw(tp, 0)
	got, c := tape.Some(tp, 3)
	none, d := tape.Some(tp, 0)
	for _, l := range [][]uint32{got, none, a.Nums, b.Nums, c.Nums, d.Nums} {
		for i := range l {
			l[i] = 99
		}
		_ = append(l, 98)
	}
	got, c = tape.Some(tp, 3)
	got[0] = 99
	if !slices.Equal(nums, []uint32{5, 7, 9, 77, 77}) || c.Nums[0] != 5 {
		t.Error("shared", nums, c)
	}
}
