package ring

import (
	"math/big"
	"math/rand"
	"slices"
	"testing"

	"portolan/api"
	"portolan/frac"
)

const most = api.MaxWide

func pts(n ...int) []api.Pt {
	l := make([]api.Pt, len(n)/2)
	for i := range l {
		l[i] = api.Pt{X: n[2*i], Y: n[2*i+1]}
	}
	return l
}

func spots(n ...int) []api.Spot {
	var l []api.Spot
	for _, p := range pts(n...) {
		l = append(l, api.Spot{X: frac.Of(p.X), Y: frac.Of(p.Y)})
	}
	return l
}

func TestP25_2Clip(t *testing.T) {
	third := api.Frac{Q: 1, R: 1, D: 3}
	for i, c := range []struct {
		l      []api.Pt
		lo, hi int
		want   []api.Spot
	}{
		{pts(0, 0, 6, 0, 0, 6), 0, 4, spots(0, 0, 4, 0, 4, 2, 2, 4, 0, 4)},
		{pts(1, 1, 3, 1, 3, 3), 0, 4, spots(1, 1, 3, 1, 3, 3)},
		{pts(-1, -1, 5, -1, 5, 5, -1, 5), 0, 4, spots(4, 0, 4, 4, 0, 4, 0, 0)},
		{pts(5, 5, 6, 5, 6, 6), 0, 4, nil},
		{pts(9, 0, 0, 9, 9, 9), 0, 4, nil},
		{nil, 0, 4, nil},
		{pts(2, 2), 0, 4, spots(2, 2)},
		{pts(5, 2), 0, 4, nil},
		{pts(1, 1, 1, 1, 1, 1), 0, 4, spots(1, 1, 1, 1, 1, 1)},
		{pts(2, 2, 6, 2), 0, 4, spots(2, 2, 4, 2, 4, 2)},
		{pts(0, 0, 4, 0, 6, 0, 6, 4, 4, 4, 0, 4), 0, 4, spots(0, 0, 4, 0, 4, 0, 4, 4, 4, 4, 0, 4)},
		{pts(1, 1, 4, 2, 1, 3), 0, 2, []api.Spot{
			{X: frac.Of(1), Y: frac.Of(1)}, {X: frac.Of(2), Y: third}, {X: frac.Of(2), Y: frac.Of(2)}, {X: frac.Of(1), Y: frac.Of(2)}}},
		{pts(-most, -most, most, -most, 0, most), -most, most, spots(-most, -most, most, -most, 0, most)},
	} {
		got, e := Clip(c.l, c.lo, c.hi)
		if !slices.Equal(got, c.want) || e != api.OK {
			t.Error(i, got, e)
		}
	}
}

func TestP25_2Errors(t *testing.T) {
	for i, c := range []struct {
		l      []api.Pt
		lo, hi int
		e      api.Errno
	}{
		{nil, 1, 0, api.ErrArg},
		{pts(most+1, 0), 1, 0, api.ErrArg},
		{nil, 0, most + 1, api.ErrRange},
		{nil, -most - 1, 0, api.ErrRange},
		{pts(0, 0, 0, most+1), 0, 1, api.ErrRange},
		{pts(-1<<63, 0), 0, 1, api.ErrRange},
	} {
		if got, e := Clip(c.l, c.lo, c.hi); len(got) > 0 || e != c.e {
			t.Error(i, got, e)
		}
	}
}

func TestP25_2Edges(t *testing.T) {
	l := spots(0, 0, 1, 0, 0, 1)
	if got := Edges(l); !slices.Equal(got, [][2]api.Spot{{l[0], l[1]}, {l[1], l[2]}, {l[2], l[0]}}) {
		t.Error(got)
	}
	if got := Edges(l[:1]); !slices.Equal(got, [][2]api.Spot{{l[0], l[0]}}) || len(Edges(nil)) != 0 {
		t.Error(got)
	}
}

type place struct{ x, y *big.Rat }

func rat(f api.Frac) *big.Rat {
	x := new(big.Rat).SetFrac(new(big.Int).SetUint64(f.R), new(big.Int).SetUint64(f.D))
	return x.Add(x, big.NewRat(int64(f.Q), 1))
}

func places(l []api.Spot) []place {
	var out []place
	for _, s := range l {
		out = append(out, place{rat(s.X), rat(s.Y)})
	}
	return out
}

func side(a, b, p place) int {
	l := new(big.Rat).Mul(new(big.Rat).Sub(b.x, a.x), new(big.Rat).Sub(p.y, a.y))
	r := new(big.Rat).Mul(new(big.Rat).Sub(b.y, a.y), new(big.Rat).Sub(p.x, a.x))
	return l.Cmp(r)
}

// around counts how often a ring goes around p; ok is false on an edge.
func around(l []place, p place) (n int, ok bool) {
	for i, a := range l {
		b := l[(i+1)%len(l)]
		s := side(a, b, p)
		low, high := a.y, b.y
		left, right := a.x, b.x
		if low.Cmp(high) > 0 {
			low, high = high, low
		}
		if left.Cmp(right) > 0 {
			left, right = right, left
		}
		if s == 0 && low.Cmp(p.y) <= 0 && high.Cmp(p.y) >= 0 && left.Cmp(p.x) <= 0 && right.Cmp(p.x) >= 0 {
			return 0, false
		}
		if a.y.Cmp(p.y) <= 0 && b.y.Cmp(p.y) > 0 && s > 0 {
			n++
		}
		if b.y.Cmp(p.y) <= 0 && a.y.Cmp(p.y) > 0 && s < 0 {
			n--
		}
	}
	return n, true
}

// clipOnce does what P25.1 states, with fractions of any size.
func clipOnce(l []place, c int, up, below bool) []place {
	at := big.NewRat(int64(c), 1)
	get := func(p place) *big.Rat {
		if up {
			return p.y
		}
		return p.x
	}
	in := func(p place) bool {
		if below {
			return get(p).Cmp(at) <= 0
		}
		return get(p).Cmp(at) >= 0
	}
	var out []place
	for i, a := range l {
		b := l[(i+1)%len(l)]
		if in(a) {
			out = append(out, a)
		}
		if in(a) != in(b) {
			f := new(big.Rat).Sub(at, get(a))
			f.Quo(f, new(big.Rat).Sub(get(b), get(a)))
			mid := func(a, b *big.Rat) *big.Rat {
				d := new(big.Rat).Sub(b, a)
				return d.Mul(d, f).Add(d, a)
			}
			out = append(out, place{mid(a.x, b.x), mid(a.y, b.y)})
		}
	}
	return out
}

func TestP25_1Exact(t *testing.T) {
	rnd := rand.New(rand.NewSource(25))
	for range 5000 {
		size := 1 << uint(2+rnd.Intn(50))
		n := func() int { return rnd.Intn(2*size) - size }
		var l []api.Pt
		for range rnd.Intn(7) {
			l = append(l, api.Pt{X: n(), Y: n()})
		}
		lo := n() / 2
		hi := lo + rnd.Intn(size)
		got, e := Clip(l, lo, hi)
		var want []place
		for _, p := range l {
			want = append(want, place{big.NewRat(int64(p.X), 1), big.NewRat(int64(p.Y), 1)})
		}
		want = clipOnce(clipOnce(clipOnce(clipOnce(want, lo, false, false), hi, false, true), lo, true, false), hi, true, true)
		if len(got) != len(want) || e != api.OK {
			t.Fatal(l, lo, hi, got, e)
		}
		for i, s := range got {
			if !frac.Right(s.X) || !frac.Right(s.Y) || rat(s.X).Cmp(want[i].x) != 0 || rat(s.Y).Cmp(want[i].y) != 0 {
				t.Fatal(l, lo, hi, i, s)
			}
		}
	}
}

func TestP25_3Winding(t *testing.T) {
	rnd := rand.New(rand.NewSource(26))
	for range 1000 {
		var l []api.Pt
		for range 3 + rnd.Intn(6) {
			l = append(l, api.Pt{X: rnd.Intn(30) - 10, Y: rnd.Intn(30) - 10})
		}
		got, _ := Clip(l, 0, 8)
		var whole []place
		for _, p := range l {
			whole = append(whole, place{big.NewRat(int64(p.X), 1), big.NewRat(int64(p.Y), 1)})
		}
		for range 20 {
			p := place{big.NewRat(int64(rnd.Intn(200)-50), 10), big.NewRat(int64(rnd.Intn(200)-50), 10)}
			eight := big.NewRat(8, 1)
			inside := p.x.Sign() > 0 && p.y.Sign() > 0 && p.x.Cmp(eight) < 0 && p.y.Cmp(eight) < 0
			outside := p.x.Sign() < 0 || p.y.Sign() < 0 || p.x.Cmp(eight) > 0 || p.y.Cmp(eight) > 0
			want, free := around(whole, p)
			n, ok := around(places(got), p)
			if inside && free && (n != want || !ok) || outside && (n != 0 || !ok) {
				t.Fatal(l, p.x, p.y, n, want)
			}
		}
		for _, s := range got {
			if frac.Cmp(s.X, 0) < 0 || frac.Cmp(s.X, 8) > 0 || frac.Cmp(s.Y, 0) < 0 || frac.Cmp(s.Y, 8) > 0 {
				t.Fatal(l, s)
			}
		}
	}
}
