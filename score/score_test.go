package score_test

import (
	"math"
	"math/big"
	"math/rand"
	"testing"

	"grapevine/api"
	"grapevine/filter"
	"grapevine/score"
)

func of(ends ...int32) api.Filter {
	var f api.Filter
	for i := 0; i+1 < len(ends); i += 2 {
		f = append(f, api.Span{From: ends[i], To: ends[i+1]})
	}
	return f
}

const low, high = math.MinInt32, math.MaxInt32

func TestOverlap(t *testing.T) {
	for _, c := range []struct {
		a, b api.Filter
		want uint32
	}{
		{of(0, 9, 0, 4), of(5, 20, 0, 0), 5},
		{of(0, 9), of(0, 9), 10},
		{of(0, 9), of(10, 19), 0},
		{of(0, 9, 0, 9), of(0, 9, 10, 19), 0},
		{nil, nil, 0},
		{nil, of(0, 9), 0},
		{of(0, 9), of(0, 9, 0, 9), 0},
		{of(low, high), of(low, high), math.MaxUint32},
		{of(low, high, 3, 3), of(low, high, 3, 3), math.MaxUint32},
		{of(low, high, low, high, low, high, low, high), of(low, high, low, high, low, high, low, high), math.MaxUint32},
		{of(0, 65535, 0, 65535), of(0, 65535, 0, 65535), math.MaxUint32},
		{of(0, 65535, 0, 65534), of(0, 65535, 0, 65534), 65536 * 65535},
		{of(0, 65537, 0, 65534), of(0, 65536, 0, 65534), 65537 * 65535},
		{of(1, 2, 1, 3, 1, 5, 1, 7, 1, 11), of(1, 2, 1, 3, 1, 5, 1, 7, 1, 11), 2310},
		{of(5, 4), of(5, 4), 0},
	} {
		if got := score.Overlap(c.a, c.b); got != c.want {
			t.Error(c.a, c.b, got)
		}
	}
}

// exact is the key by the chapter's words, with numbers that know no bounds.
func exact(s api.Schema, f api.Filter) uint8 {
	key := int64(0)
	for i, x := range f {
		m := new(big.Rat).SetFrac64(int64(x.From)+int64(x.To), 2)
		floor := new(big.Int).Div(m.Num(), m.Denom()) // Div rounds down, for a positive divisor
		n := new(big.Int).Sub(floor, big.NewInt(int64(s[i].From)))
		n.Mul(n, big.NewInt(4)).Div(n, big.NewInt(int64(s[i].To)-int64(s[i].From)+1))
		key = 4*key + n.Int64()
	}
	return uint8(key)
}

func TestKey(t *testing.T) {
	two := api.Schema{{From: 0, To: 9}, {From: -5, To: 5}}
	one := api.Schema{{From: 0, To: 9}}
	whole := api.Schema{{From: low, To: high}}
	for _, c := range []struct {
		s    api.Schema
		f    api.Filter
		want uint8
	}{
		{two, of(3, 9, -5, 0), 8}, {two, nil, 0}, {two, api.Filter{}, 0},
		{one, of(0, 0), 0}, {one, of(9, 9), 3}, {one, of(2, 2), 0}, {one, of(3, 3), 1}, {one, of(4, 4), 1}, {one, of(5, 5), 2}, {one, of(7, 7), 2}, {one, of(8, 8), 3}, {one, of(0, 9), 1},
		{two, of(0, 0, -5, -4), 0}, {two, of(9, 9, 5, 5), 15}, {two, of(0, 0, 5, 5), 3},
		{whole, of(low, low), 0}, {whole, of(high, high), 3}, {whole, of(low, high), 1}, {whole, of(0, 0), 2}, {whole, of(-1, -1), 1}, {whole, of(high-1, high), 3},
		{append(append(api.Schema{}, two...), two...), of(9, 9, 5, 5, 9, 9, 5, 5), 255},
		{append(append(api.Schema{}, two...), one...), of(9, 9, 0, 0, 9, 9), 48 + 4*1 + 3},
	} {
		if got := score.Key(c.s, c.f); got != c.want || got != exact(c.s, c.f) {
			t.Error(c.s, c.f, got, exact(c.s, c.f))
		}
	}
}

func number(r *rand.Rand) int32 {
	if r.Intn(4) == 0 {
		return int32(r.Uint32())
	}
	return int32(r.Intn(21) - 10)
}

func TestKeyAtRandom(t *testing.T) {
	r := rand.New(rand.NewSource(1))
	for range 5000 {
		var s api.Schema
		var f api.Filter
		for range 1 + r.Intn(4) {
			a, b := number(r), number(r)
			s = append(s, api.Span{From: min(a, b), To: max(a, b)})
			f = append(f, api.Span{From: number(r), To: number(r)})
		}
		f, _ = filter.Normal(s, f)
		got := score.Key(s, f)
		if got != exact(s, f) || int(got) >= 1<<(2*len(s)) {
			t.Fatal(s, f, got, exact(s, f))
		}
	}
}

func random(r *rand.Rand) api.Filter {
	var f api.Filter
	for range 1 + r.Intn(2) {
		f = append(f, api.Span{From: number(r), To: number(r)})
	}
	return f
}

func TestConsequences(t *testing.T) {
	r := rand.New(rand.NewSource(2))
	for range 5000 {
		a, b, c := random(r), random(r), random(r)
		o := score.Overlap(a, b)
		if o != score.Overlap(b, a) || o > score.Overlap(a, a) || o > score.Overlap(b, b) {
			t.Fatal("symmetry, or its own", a, b)
		}
		if (o == 0) != (len(filter.Meet(a, b)) == 0) {
			t.Fatal("nothing in common", a, b)
		}
		if filter.Covers(c, a) && score.Overlap(c, b) < o {
			t.Fatal("covers", a, b, c)
		}
		product := big.NewInt(0)
		for i, x := range filter.Meet(a, b) {
			if i == 0 {
				product.SetInt64(1)
			}
			product.Mul(product, big.NewInt(min(int64(x.To)-int64(x.From)+1, math.MaxUint32)))
		}
		if product.Cmp(big.NewInt(math.MaxUint32)) > 0 {
			product.SetInt64(math.MaxUint32)
		}
		if product.Uint64() != uint64(o) {
			t.Fatal(a, b, o, product)
		}
	}
}

// Filters and schemas that are not right bring nothing down.
func TestAnything(t *testing.T) {
	for _, s := range []api.Schema{nil, of2(5, 4), of2(0, -1), of2(high, low), make(api.Schema, 9)} {
		for _, f := range []api.Filter{nil, of(1, 2), of(low, low), of(high, low, 1, 2, 3, 4), make(api.Filter, 20)} {
			score.Key(s, f)
			score.Overlap(api.Filter(s), f)
		}
	}
}

func of2(ends ...int32) api.Schema { return api.Schema(of(ends...)) }
