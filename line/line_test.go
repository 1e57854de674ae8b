package line

import (
	"math/big"
	"math/rand"
	"slices"
	"testing"

	"portolan/api"
	"portolan/frac"
)

const most = api.MaxWide

func pts(n ...int) []api.Pt {
	l := make([]api.Pt, len(n)/2)
	for i := range l {
		l[i] = api.Pt{X: n[2*i], Y: n[2*i+1]}
	}
	return l
}

func spots(n ...int) []api.Spot {
	var l []api.Spot
	for _, p := range pts(n...) {
		l = append(l, Spot(p))
	}
	return l
}

func mixed(q int, r, d uint64) api.Frac { return api.Frac{Q: q, R: r, D: d} }

func TestP24_1Inside(t *testing.T) {
	for _, p := range pts(1, 1, 4, 4, 1, 4, 2, 3) {
		if !Inside(p, 1, 4) {
			t.Error(p)
		}
	}
	for _, p := range pts(0, 1, 1, 0, 5, 1, 1, 5, -1<<63, 2) {
		if Inside(p, 1, 4) {
			t.Error(p)
		}
	}
	if Inside(api.Pt{}, 1, -1) {
		t.Error("no window")
	}
}

func TestP24_1SpotAndSame(t *testing.T) {
	s := Spot(api.Pt{X: 3, Y: -4})
	if s != (api.Spot{X: mixed(3, 0, 1), Y: mixed(-4, 0, 1)}) {
		t.Error(s)
	}
	a := spots(1, 2, 3, 4)
	if !Same(a, spots(1, 2, 3, 4)) || Same(a, spots(3, 4, 1, 2)) || Same(a, a[:1]) || Same(a, spots(1, 2, 3, 5)) || Same(a, spots(1, 0, 3, 4)) || !Same(nil, []api.Spot{}) {
		t.Error("Same")
	}
}

func TestP24_1Segment(t *testing.T) {
	for i, c := range []struct {
		l      []api.Pt
		lo, hi int
		want   []api.Spot
	}{
		{pts(0, 0, 6, 3), 1, 4, spots(2, 1, 4, 2)},
		{pts(6, 3, 0, 0), 1, 4, spots(4, 2, 2, 1)},
		{pts(2, 2, 3, 3), 1, 4, spots(2, 2, 3, 3)},
		{pts(2, 2, 9, 2), 1, 4, spots(2, 2, 4, 2)},
		{pts(2, 9, 2, 2), 1, 4, spots(2, 4, 2, 2)},
		{pts(2, -9, 2, 9), 1, 4, spots(2, 1, 2, 4)},
		{pts(2, 2, 2, 2), 1, 4, spots(2, 2, 2, 2)},
		{pts(9, 9, 9, 9), 1, 4, nil},
		{pts(0, 2, 2, 0), 1, 4, spots(1, 1, 1, 1)},
		{pts(0, 1, 1, 0), 1, 4, nil},
		{pts(0, 4, 9, 4), 1, 4, spots(1, 4, 4, 4)},
		{pts(0, 5, 9, 5), 1, 4, nil},
		{pts(1, 0, 1, 2), 1, 4, spots(1, 1, 1, 2)},
		{pts(4, 4, 9, 9), 1, 4, spots(4, 4, 4, 4)},
		{pts(-9, -9, 9, 9), 0, 0, spots(0, 0, 0, 0)},
		{pts(0, 0, 3, 1), 1, 9, spots(3, 1, 3, 1)},
		{pts(0, 0, 9, 3), 1, 4, []api.Spot{Spot(api.Pt{X: 3, Y: 1}), {X: mixed(4, 0, 1), Y: mixed(1, 1, 3)}}},
		{pts(0, 0, -7, 3), -5, 5, []api.Spot{Spot(api.Pt{}), {X: mixed(-5, 0, 1), Y: mixed(2, 1, 7)}}},
		{pts(-most, -most, most, most), -most, most, spots(-most, -most, most, most)},
		{pts(0, 0, 1, 1), 1, 0, nil},
		{pts(most+1, 0, 1, 1), 0, 1, nil},
		{pts(0, 0, 1, -most-1), 0, 1, nil},
		{pts(0, 0, 1, 1), 0, most + 1, nil},
		{pts(0, 0, 1, 1), -most - 1, 1, nil},
	} {
		a, b, ok := Segment(c.l[0], c.l[1], c.lo, c.hi)
		if c.want == nil {
			if a != (api.Spot{}) || b != (api.Spot{}) || ok {
				t.Error(i, a, b, ok)
			}
		} else if a != c.want[0] || b != c.want[1] || !ok {
			t.Error(i, a, b, ok)
		}
	}
}

func TestP24_2Clip(t *testing.T) {
	for i, c := range []struct {
		l      []api.Pt
		lo, hi int
		want   [][]api.Spot
	}{
		{nil, 0, 4, nil},
		{pts(2, 2), 0, 4, [][]api.Spot{spots(2, 2)}},
		{pts(5, 2), 0, 4, nil},
		{pts(2, 2, 2, 2, 2, 2), 0, 4, [][]api.Spot{spots(2, 2)}},
		{pts(1, 1, 1, 1, 2, 2, 2, 2, 1, 1), 0, 4, [][]api.Spot{spots(1, 1, 2, 2, 1, 1)}},
		{pts(-1, 2, 5, 2, 5, 3, -1, 3), 0, 4, [][]api.Spot{spots(0, 2, 4, 2), spots(4, 3, 0, 3)}},
		{pts(2, 2, 6, 2, 2, 2), 0, 4, [][]api.Spot{spots(2, 2, 4, 2), spots(4, 2, 2, 2)}},
		{pts(2, 2, 4, 2, 6, 2, 4, 2, 2, 2), 0, 4, [][]api.Spot{spots(2, 2, 4, 2), spots(4, 2, 2, 2)}},
		{pts(5, 3, 4, 3, 5, 3), 0, 4, [][]api.Spot{spots(4, 3)}},
		{pts(3, 5, 5, 3), 0, 4, [][]api.Spot{spots(4, 4)}},
		{pts(-1, 0, 2, 0, 2, 5), 0, 4, [][]api.Spot{spots(0, 0, 2, 0, 2, 4)}},
		{pts(1, 1, 3, 3, 9, 9, 9, 0, 3, 0), 0, 4, [][]api.Spot{spots(1, 1, 3, 3, 4, 4), spots(4, 0, 3, 0)}},
		{pts(9, 9, 9, 9, 8, 8), 0, 4, nil},
		{pts(-9, 1, 9, 1), 0, 0, nil},
		{pts(-9, 0, 9, 0), 0, 0, [][]api.Spot{spots(0, 0)}},
	} {
		got, e := Clip(c.l, c.lo, c.hi)
		if !slices.EqualFunc(got, c.want, Same) || e != api.OK {
			t.Error(i, got, e)
		}
	}
	for i, c := range []struct {
		l      []api.Pt
		lo, hi int
		e      api.Errno
	}{
		{nil, 1, 0, api.ErrArg},
		{pts(most+1, 0), 1, 0, api.ErrArg},
		{nil, most + 5, most + 4, api.ErrArg},
		{nil, 0, most + 1, api.ErrRange},
		{nil, -most - 1, 0, api.ErrRange},
		{pts(0, 0, 0, most+1), 0, 1, api.ErrRange},
		{pts(0, 0, -most-1, 0), 0, 1, api.ErrRange},
		{pts(most, -most), -most, most, api.OK},
	} {
		if got, e := Clip(c.l, c.lo, c.hi); e != c.e || e != api.OK && len(got) > 0 {
			t.Error(i, got, e)
		}
	}
}

func rat(f api.Frac) *big.Rat {
	x := new(big.Rat).SetFrac(new(big.Int).SetUint64(f.R), new(big.Int).SetUint64(f.D))
	return x.Add(x, big.NewRat(int64(f.Q), 1))
}

// in tells which part of the segment, from 0 to 1, lies in the window (Liang and Barsky's way).
func in(p, q api.Pt, lo, hi int) (from, to *big.Rat, ok bool) {
	from, to = big.NewRat(0, 1), big.NewRat(1, 1)
	for _, c := range [][2]int{{p.X, q.X - p.X}, {p.Y, q.Y - p.Y}} {
		if c[1] == 0 {
			if c[0] < lo || c[0] > hi {
				return nil, nil, false
			}
			continue
		}
		a, b := big.NewRat(int64(lo-c[0]), int64(c[1])), big.NewRat(int64(hi-c[0]), int64(c[1]))
		if a.Cmp(b) > 0 {
			a, b = b, a
		}
		if a.Cmp(from) > 0 {
			from = a
		}
		if b.Cmp(to) < 0 {
			to = b
		}
	}
	return from, to, from.Cmp(to) <= 0
}

func on(p, q api.Pt, at *big.Rat) (x, y *big.Rat) {
	x = new(big.Rat).Mul(at, big.NewRat(int64(q.X-p.X), 1))
	y = new(big.Rat).Mul(at, big.NewRat(int64(q.Y-p.Y), 1))
	return x.Add(x, big.NewRat(int64(p.X), 1)), y.Add(y, big.NewRat(int64(p.Y), 1))
}

func TestP24_1Exact(t *testing.T) {
	rnd := rand.New(rand.NewSource(24))
	for range 30000 {
		size := 1 << uint(2+rnd.Intn(50))
		n := func() int { return rnd.Intn(2*size) - size }
		p, q := api.Pt{X: n(), Y: n()}, api.Pt{X: n(), Y: n()}
		lo := n() / 2
		hi := lo + rnd.Intn(size)
		a, b, ok := Segment(p, q, lo, hi)
		from, to, want := in(p, q, lo, hi)
		if ok != want {
			t.Fatal(p, q, lo, hi, ok)
		}
		if !ok {
			continue
		}
		for i, s := range []api.Spot{a, b} {
			x, y := on(p, q, []*big.Rat{from, to}[i])
			if rat(s.X).Cmp(x) != 0 || rat(s.Y).Cmp(y) != 0 || !frac.Right(s.X) || !frac.Right(s.Y) {
				t.Fatal(p, q, lo, hi, s)
			}
		}
	}
}

func TestP24_3Parts(t *testing.T) {
	rnd := rand.New(rand.NewSource(25))
	for range 5000 {
		var l []api.Pt
		for range rnd.Intn(8) {
			l = append(l, api.Pt{X: rnd.Intn(12) - 4, Y: rnd.Intn(12) - 4})
		}
		parts, _ := Clip(l, 0, 4)
		back := slices.Clone(l)
		slices.Reverse(back)
		reversed, _ := Clip(back, 0, 4)
		slices.Reverse(reversed)
		for _, part := range reversed {
			slices.Reverse(part)
		}
		if !slices.EqualFunc(parts, reversed, Same) {
			t.Fatal(l, parts, reversed)
		}
		for _, s := range slices.Concat(parts...) {
			if !between(s.X, 0, 4) || !between(s.Y, 0, 4) {
				t.Fatal(l, s)
			}
		}
		whole, _ := Clip(l, -9, 9)
		var want []api.Spot
		for _, p := range slices.Compact(slices.Clone(l)) {
			want = append(want, Spot(p))
		}
		if len(l) > 0 && (len(whole) != 1 || !Same(whole[0], want)) {
			t.Fatal(l, whole)
		}
	}
}
