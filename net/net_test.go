package net_test

import (
	"bytes"
	"math"
	"math/rand"
	"slices"
	"testing"

	"grapevine/api"
	"grapevine/crc"
	"grapevine/net"
)

func parcel(to uint8, text string) api.Parcel { return api.Parcel{To: to, B: []byte(text)} }

func of(room, lost int, l ...api.Parcel) api.Net { return api.Net{Room: room, Lost: lost, L: l} }

func equal(p, q api.Parcel) bool {
	return p.To == q.To && p.Bent == q.Bent && bytes.Equal(p.B, q.B)
}

func same(a, b api.Net) bool {
	return a.Room == b.Room && a.Lost == b.Lost && slices.EqualFunc(a.L, b.L, equal)
}

func TestExamples(t *testing.T) {
	n := net.Send(net.Send(net.Send(of(2, 0), 1, []byte("ab")), 2, []byte("c")), 3, []byte("d"))
	if !same(n, of(2, 1, parcel(1, "ab"), parcel(2, "c"))) {
		t.Error(n)
	}
	n, err := net.Double(n, 0)
	if !same(n, of(2, 2, parcel(1, "ab"), parcel(2, "c"))) || err != api.OK {
		t.Error(n, err)
	}
	n, err = net.Move(n, 0, 1)
	if !same(n, of(2, 2, parcel(2, "c"), parcel(1, "ab"))) || err != api.OK {
		t.Error(n, err)
	}
	n, err = net.Bend(n, 0, 0, 1)
	bent := of(2, 2, api.Parcel{To: 2, Bent: true, B: []byte("b")}, parcel(1, "ab"))
	if !same(n, bent) || err != api.OK {
		t.Error(n, err)
	}
	if got, err := net.Bend(n, 0, 0, 1); !same(got, bent) || err != api.ErrArg {
		t.Error("again", got, err)
	}
	p, rest, err := net.Take(n, 1)
	if !equal(p, parcel(1, "ab")) || !same(rest, of(2, 2, bent.L[0])) || err != api.OK {
		t.Error(p, rest, err)
	}
	if got, err := net.Lose(n, 5); !same(got, bent) || err != api.ErrArg {
		t.Error(got, err)
	}
	if got, err := net.Bend(of(1, 0, parcel(1, "a")), 0, 8, 1); !same(got, of(1, 0, parcel(1, "a"))) || err != api.ErrArg {
		t.Error(got, err)
	}
}

func TestRoom(t *testing.T) {
	for _, room := range []int{0, -1, math.MinInt} {
		if n := net.Send(of(room, 3), 1, []byte("a")); !same(n, of(room, 4)) {
			t.Error(n)
		}
	}
	if n := net.Send(of(0, math.MaxInt), 1, nil); !same(n, of(0, math.MinInt)) {
		t.Error("it wraps", n)
	}
	if n, err := net.Double(of(1, math.MaxInt, parcel(1, "a")), 0); !same(n, of(1, math.MinInt, parcel(1, "a"))) || err != api.OK {
		t.Error("it wraps", n, err)
	}
	if n := net.Send(of(math.MaxInt, 0), 255, nil); !same(n, of(math.MaxInt, 0, parcel(255, ""))) {
		t.Error(n)
	}
	bent := api.Parcel{To: 9, Bent: true, B: []byte("xy")}
	if n, err := net.Double(of(5, 1, parcel(1, "a"), bent, parcel(2, "b")), 1); !same(n, of(5, 1, parcel(1, "a"), bent, parcel(2, "b"), bent)) || err != api.OK {
		t.Error("as it is", n, err)
	}
	if n, err := net.Lose(of(0, 7, parcel(1, "a")), 0); !same(n, of(0, 7)) || err != api.OK {
		t.Error("Lost stays", n, err)
	}
}

// What is no index: ErrArg, the net as it was, and no parcel.
func TestArguments(t *testing.T) {
	n := of(9, 1, parcel(1, "ab"), parcel(2, "c"))
	for _, at := range []int{-1, 2, 3, math.MinInt, math.MaxInt} {
		if p, got, err := net.Take(n, at); !equal(p, api.Parcel{}) || !same(got, n) || err != api.ErrArg {
			t.Error(at, p, got, err)
		}
		for i, f := range []func() (api.Net, api.Errno){
			func() (api.Net, api.Errno) { return net.Lose(n, at) }, func() (api.Net, api.Errno) { return net.Double(n, at) }, func() (api.Net, api.Errno) { return net.Bend(n, at, 0, 1) }, func() (api.Net, api.Errno) { return net.Move(n, at, 0) }, func() (api.Net, api.Errno) { return net.Move(n, 0, at) },
			func() (api.Net, api.Errno) { return net.Double(of(0, 0), 0) },
		} {
			if got, err := f(); err != api.ErrArg || i < 5 && !same(got, n) {
				t.Error(at, i, got, err)
			}
		}
	}
	for _, c := range []struct {
		at, from int
		turns    uint32
	}{{0, 16, 1}, {0, 15, 2}, {0, 0, 0}, {0, -1, math.MaxUint32}, {0, math.MinInt, math.MaxUint32}, {0, math.MaxInt, math.MaxUint32}, {1, 8, 1}, {1, 0, 256}, {1, 4, 16}} {
		if got, err := net.Bend(n, c.at, c.from, c.turns); !same(got, n) || err != api.ErrArg {
			t.Error(c, got, err)
		}
	}
}

func TestBend(t *testing.T) {
	r := rand.New(rand.NewSource(1))
	for range 3000 {
		b := make([]byte, r.Intn(8))
		r.Read(b)
		from, turns := r.Intn(70)-2, r.Uint32()
		if r.Intn(2) == 0 {
			turns = 1 << r.Intn(32)
		}
		want, bent := bytes.Clone(b), false
		for i := range 32 {
			if at := from + i; from >= 0 && at < 8*len(b) && turns>>i&1 == 1 {
				want[at/8] ^= 1 << (at % 8)
				bent = true
			}
		}
		n := of(3, 0, parcel(7, "zz"), api.Parcel{To: 5, B: b})
		got, err := net.Bend(n, 1, from, turns)
		if bent && (err != api.OK || !same(got, of(3, 0, n.L[0], api.Parcel{To: 5, Bent: true, B: want}))) || !bent && (err != api.ErrArg || !same(got, n)) {
			t.Fatal(b, from, turns, got, err)
		}
		sealed := net.Send(of(1, 0), 1, crc.Seal(b))
		if c, err := net.Bend(sealed, 0, max(0, from), turns); err == api.OK {
			if _, err := crc.Open(c.L[0].B); err == api.OK {
				t.Fatal("opened", b, from, turns)
			}
		}
	}
}

func TestMove(t *testing.T) {
	l := []api.Parcel{parcel(0, "a"), parcel(1, "b"), parcel(2, "c"), parcel(3, "d")}
	for at := range l {
		for to := range l {
			want := slices.Delete(slices.Clone(l), at, at+1)
			want = slices.Insert(want, to, l[at])
			if got, err := net.Move(of(4, 2, l...), at, to); !same(got, of(4, 2, want...)) || err != api.OK {
				t.Error(at, to, got, err)
			}
		}
	}
	if got, err := net.Move(of(4, 2, l...), 0, 4); !same(got, of(4, 2, l...)) || err != api.ErrArg {
		t.Error(got, err)
	}
	if got, err := net.Move(of(0, 0, l[:2]...), 1, 0); !same(got, of(0, 0, l[1], l[0])) || err != api.OK {
		t.Error("it takes no room", got, err)
	}
}

func TestSame(t *testing.T) {
	n := of(2, 1, parcel(1, "ab"), parcel(2, ""))
	if !net.Same(n, of(2, 1, parcel(1, "ab"), api.Parcel{To: 2})) || !net.Same(of(0, 0), api.Net{L: []api.Parcel{}}) {
		t.Error("the same")
	}
	for i, m := range []api.Net{of(3, 1, n.L...), of(2, 2, n.L...), of(2, 1, n.L[0]), of(2, 1, n.L[1], n.L[0]), of(2, 1, parcel(2, "ab"), n.L[1]), of(2, 1, parcel(1, "ac"), n.L[1]), of(2, 1, parcel(1, "a"), n.L[1]), of(2, 1, api.Parcel{To: 1, Bent: true, B: []byte("ab")}, n.L[1]), of(2, 1, n.L[0], n.L[1], parcel(2, ""))} {
		if net.Same(n, m) || net.Same(m, n) {
			t.Error(i)
		}
	}
}

// A net is compared with a list of its parcels.
func TestAtRandom(t *testing.T) {
	r := rand.New(rand.NewSource(2))
	for range 200 {
		room := r.Intn(6)
		n := of(room, 0)
		var want []api.Parcel
		lost := 0
		for k := range 40 {
			at := r.Intn(7)
			ok := at < len(want)
			err := api.OK
			switch r.Intn(5) {
			case 0:
				var p api.Parcel
				p, n, err = net.Take(n, at)
				if ok {
					if !equal(p, want[at]) {
						t.Fatal(p, want[at])
					}
					want = slices.Delete(slices.Clone(want), at, at+1)
				}
			case 1:
				n, err = net.Lose(n, at)
				if ok {
					want = slices.Delete(slices.Clone(want), at, at+1)
				}
			case 2:
				n, err = net.Double(n, at)
				if ok && len(want) < room {
					want = append(want, want[at])
				} else if ok {
					lost++
				}
			default:
				p := api.Parcel{To: uint8(k), B: []byte{byte(k), 1}}
				n = net.Send(n, p.To, p.B)
				ok = true
				if len(want) < room {
					want = append(want, p)
				} else {
					lost++
				}
			}
			if ok != (err == api.OK) || !ok && err != api.ErrArg || !same(n, of(room, lost, want...)) {
				t.Fatal(n, want, lost, err)
			}
		}
	}
}

func TestMemory(t *testing.T) {
	whole := func() []api.Parcel {
		return []api.Parcel{parcel(1, "ab"), parcel(2, "c"), parcel(7, "x"), parcel(7, "x")}
	}
	all, frame := whole(), []byte("zz")
	n := of(9, 0, all[:2]...)
	p, taken, _ := net.Take(n, 0)
	_, untaken, _ := net.Take(n, 9)
	lost, _ := net.Lose(n, 1)
	doubled, _ := net.Double(n, 0)
	bent, _ := net.Bend(n, 0, 3, 5)
	unbent, _ := net.Bend(n, 0, 99, 5)
	moved, _ := net.Move(n, 0, 1)
	unmoved, _ := net.Move(n, 0, 9)
	doubled.L[2].B[0] ^= 1
	if doubled.L[0].B[0] != 'a' {
		t.Error("a parcel and its copy share memory")
	}
	for i, got := range []api.Net{of(1, 0, p), taken, untaken, lost, doubled, bent, unbent, moved, unmoved, net.Send(n, 3, frame), net.Send(of(2, 0, n.L...), 3, frame)} {
		for j := range got.L {
			got.L[j].To = 99
			got.L[j].B[0] = 99
			_ = append(got.L[j].B, 98)
		}
		_ = append(got.L, parcel(98, ""))
		if !slices.EqualFunc(all, whole(), equal) || !bytes.Equal(frame, []byte("zz")) {
			t.Fatal("shared", i)
		}
	}
}
