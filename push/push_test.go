package push_test

import (
	"math"
	"math/rand"
	"slices"
	"testing"

	"grapevine/push"
)

func TestPick(t *testing.T) {
	for i, c := range []struct {
		links  []uint8
		fanout int
		draws  []uint32
		want   []uint8
	}{
		{[]uint8{1, 2, 3}, 2, []uint32{4, 5}, []uint8{2, 3}}, {[]uint8{1, 2, 3}, 9, nil, []uint8{1, 2, 3}}, {[]uint8{1, 2}, -1, []uint32{7}, nil}, {[]uint8{1, 2}, 0, []uint32{7}, nil},
		{[]uint8{1, 2}, math.MinInt, nil, nil}, {[]uint8{1, 2}, math.MaxInt, []uint32{1}, []uint8{2, 1}}, {nil, 3, []uint32{7}, nil}, {[]uint8{5, 5, 5}, 2, []uint32{7, 7}, []uint8{5, 5}},
		{[]uint8{1, 2, 3}, 3, []uint32{math.MaxUint32, math.MaxUint32, math.MaxUint32}, []uint8{1, 3, 2}}, {[]uint8{3, 1, 2}, 3, []uint32{2}, []uint8{2, 3, 1}}, {[]uint8{9, 0, 9}, 1, []uint32{1, 1, 1}, []uint8{0}},
		{[]uint8{1, 2, 3, 4}, 3, []uint32{3, 2, 1, 0}, []uint8{4, 3, 2}},
	} {
		if got := push.Pick(c.links, c.fanout, c.draws); !slices.Equal(got, c.want) {
			t.Error(i, got)
		}
	}
}

func TestLess(t *testing.T) {
	if n, ok := push.Less(0); n != 0 || ok {
		t.Error(n, ok)
	}
	for hops := 1; hops < 256; hops++ {
		if n, ok := push.Less(uint8(hops)); int(n) != hops-1 || !ok {
			t.Error(hops, n, ok)
		}
	}
}

func TestConsequences(t *testing.T) {
	r := rand.New(rand.NewSource(1))
	for range 3000 {
		links := make([]uint8, r.Intn(7))
		for i := range links {
			links[i] = uint8(r.Intn(256))
		}
		draws := make([]uint32, r.Intn(9))
		for i := range draws {
			draws[i] = r.Uint32()
		}
		fanout := r.Intn(9) - 1
		left, want := slices.Clone(links), []uint8(nil)
		for i := 0; i < fanout && len(left) > 0; i++ {
			at := 0
			if i < len(draws) {
				at = int(draws[i]) % len(left)
			}
			want = append(want, left[at])
			left = append(left[:at:at], left[at+1:]...)
		}
		got := push.Pick(links, fanout, draws)
		if !slices.Equal(got, want) {
			t.Fatal(links, fanout, draws, got)
		}
		if more := push.Pick(links, fanout, append(slices.Clone(draws[:min(len(draws), len(got))]), 7, 7, 7)); len(draws) >= len(got) && !slices.Equal(more, got) {
			t.Fatal("draws that are not needed", got, more)
		}
		if all := push.Pick(links, len(links), draws); !slices.Equal(slices.Sorted(slices.Values(all)), slices.Sorted(slices.Values(links))) {
			t.Fatal("not all", links, all)
		}
		for i := range links {
			if got := push.Pick(links, 1, []uint32{uint32(i)}); !slices.Equal(got, links[i:i+1]) {
				t.Fatal("never picked", links, i, got)
			}
		}
	}
}

func TestMemory(t *testing.T) {
	all, draws := []uint8{1, 2, 3, 77, 77}, []uint32{1, 1, 1}
	for _, fanout := range []int{1, 3, 9} {
		got := push.Pick(all[:3], fanout, draws)
		for i := range got {
			got[i] = 99
		}
		_ = append(got, 98)
		if !slices.Equal(all, []uint8{1, 2, 3, 77, 77}) || !slices.Equal(draws, []uint32{1, 1, 1}) {
			t.Fatal("shared", all, draws)
		}
	}
}
