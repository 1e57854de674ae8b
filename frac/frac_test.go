package frac

import (
	"math/big"
	"math/rand"
	"testing"

	"portolan/api"
)

const (
	most = api.MaxWide
	maxI = 1<<63 - 1
	minI = -1 << 63
)

func fr(q int, r, d uint64) api.Frac { return api.Frac{Q: q, R: r, D: d} }
func pt(x, y int) api.Pt             { return api.Pt{X: x, Y: y} }

func TestP23_1Right(t *testing.T) {
	for _, c := range []struct {
		f  api.Frac
		ok bool
	}{
		{fr(0, 0, 1), true},
		{fr(5, 1, 3), true},
		{fr(-5, 2, 3), true},
		{fr(0, 0, 0), false},
		{fr(0, 0, 2), false},
		{fr(0, 2, 4), false},
		{fr(0, 3, 3), false},
		{fr(0, 4, 3), false},
		{fr(0, 1, 1), false},
		{fr(0, 1, 0), false},
		{fr(most, 1, 2), true},
		{fr(most+1, 0, 1), false},
		{fr(-most, 0, 1), true},
		{fr(-most-1, 0, 1), false},
		{fr(0, 1, 2*most), true},
		{fr(0, 1, 2*most+1), false},
		{fr(minI, 0, 1), false},
		{fr(maxI, 0, 1), false},
		{fr(0, 1<<64-2, 1<<64-1), false},
	} {
		if Right(c.f) != c.ok {
			t.Error(c)
		}
		if !c.ok && (Cmp(c.f, -5) != 0 || Cmp(c.f, 5) != 0 || Round(c.f) != 0) {
			t.Error(c)
		}
	}
}

func TestP23_1Make(t *testing.T) {
	for _, c := range []struct {
		q    int
		r, d uint64
		f    api.Frac
		e    api.Errno
	}{
		{5, 2, 6, fr(5, 1, 3), api.OK},
		{-1, 0, 9, fr(-1, 0, 1), api.OK},
		{0, 1 << 62, 1 << 63, fr(0, 1, 2), api.OK},
		{0, 0, 0, api.Frac{}, api.ErrArg},
		{0, 3, 3, api.Frac{}, api.ErrArg},
		{0, 4, 3, api.Frac{}, api.ErrArg},
		{most + 1, 3, 3, api.Frac{}, api.ErrArg},
		{most + 1, 0, 3, api.Frac{}, api.ErrRange},
		{-most - 1, 1, 3, api.Frac{}, api.ErrRange},
		{most, 1, 3, fr(most, 1, 3), api.OK},
		{0, 1, 2*most + 1, api.Frac{}, api.ErrRange},
		{0, 2, 4 * most, fr(0, 1, 2*most), api.OK},
	} {
		if f, e := Make(c.q, c.r, c.d); f != c.f || e != c.e {
			t.Error(c, f, e)
		}
	}
}

func TestP23_1OfAndSame(t *testing.T) {
	for _, n := range []int{0, 5, -5, minI, maxI} {
		if Of(n) != fr(n, 0, 1) {
			t.Error(n)
		}
	}
	a := fr(1, 2, 3)
	if !Same(a, fr(1, 2, 3)) || Same(a, fr(0, 2, 3)) || Same(a, fr(1, 1, 3)) || Same(a, fr(1, 2, 5)) || Same(fr(0, 1, 2), fr(0, 2, 4)) {
		t.Error("Same")
	}
}

func TestP23_2Cmp(t *testing.T) {
	for _, c := range []struct {
		f    api.Frac
		n    int
		want int
	}{
		{fr(3, 0, 1), 3, 0}, {fr(3, 1, 9), 3, 1}, {fr(3, 8, 9), 4, -1}, {fr(3, 0, 1), 2, 1}, {fr(3, 0, 1), 4, -1},
		{fr(-3, 1, 2), -3, 1}, {fr(-3, 1, 2), -2, -1}, {fr(-3, 0, 1), -3, 0}, {fr(0, 0, 1), minI, 1}, {fr(0, 0, 1), maxI, -1},
	} {
		if n := Cmp(c.f, c.n); n != c.want {
			t.Error(c, n)
		}
	}
}

func TestP23_2Round(t *testing.T) {
	for _, c := range []struct {
		f api.Frac
		n int
	}{
		{fr(3, 0, 1), 3}, {fr(3, 1, 3), 3}, {fr(3, 1, 2), 4}, {fr(3, 2, 3), 4}, {fr(-3, 1, 2), -2}, {fr(-3, 1, 3), -3}, {fr(-3, 2, 3), -2},
		{fr(-1, 1, 2), 0}, {fr(most, 1, 2), most + 1}, {fr(0, most-1, 2*most), 0}, {fr(0, most, 2*most-1), 1}, {fr(0, most-1, 2*most-1), 0},
	} {
		if n := Round(c.f); n != c.n {
			t.Error(c, n)
		}
	}
}

func TestP23_3Cross(t *testing.T) {
	for i, c := range []struct {
		p, q api.Pt
		c    int
		up   bool
		f    api.Frac
		e    api.Errno
	}{
		{pt(0, 0), pt(3, 1), 1, false, fr(0, 1, 3), api.OK},
		{pt(0, 0), pt(3, -1), 1, false, fr(-1, 2, 3), api.OK},
		{pt(0, 0), pt(1, 3), 1, true, fr(0, 1, 3), api.OK},
		{pt(0, 5), pt(3, 5), 2, false, fr(5, 0, 1), api.OK},
		{pt(0, 0), pt(3, 1), 0, false, fr(0, 0, 1), api.OK},
		{pt(0, 0), pt(3, 1), 3, false, fr(1, 0, 1), api.OK},
		{pt(0, 0), pt(3, 1), 4, false, api.Frac{}, api.ErrNone},
		{pt(0, 0), pt(3, 1), -1, false, api.Frac{}, api.ErrNone},
		{pt(2, 0), pt(2, 9), 2, false, api.Frac{}, api.ErrNone},
		{pt(2, 0), pt(2, 9), 2, true, fr(2, 0, 1), api.OK},
		{pt(0, 2), pt(9, 2), 2, true, api.Frac{}, api.ErrNone},
		{pt(2, 2), pt(2, 2), 2, false, api.Frac{}, api.ErrNone},
		{pt(-most, -most), pt(most, most), 7, false, fr(7, 0, 1), api.OK},
		{pt(-most, most), pt(most, -most), 7, true, fr(-7, 0, 1), api.OK},
		{pt(-most, 0), pt(most, 1), -most + 1, false, fr(0, 1, 2*most), api.OK},
		{pt(-most-1, 0), pt(most, 1), 0, false, api.Frac{}, api.ErrRange},
		{pt(0, most+1), pt(9, 1), 0, false, api.Frac{}, api.ErrRange},
		{pt(0, 0), pt(minI, 1), 0, false, api.Frac{}, api.ErrRange},
		{pt(0, 0), pt(0, maxI), 0, false, api.Frac{}, api.ErrRange},
		{pt(-most-1, 0), pt(5, 0), 0, false, api.Frac{}, api.ErrRange},
		{pt(5, 0), pt(-most-1, 0), 0, false, api.Frac{}, api.ErrRange},
		{pt(0, most+1), pt(9, 1), 9, false, api.Frac{}, api.ErrRange},
		{pt(9, 1), pt(0, most+1), 9, false, api.Frac{}, api.ErrRange},
		{pt(0, 0), pt(1, 0), most + 1, false, api.Frac{}, api.ErrRange},
		{pt(0, 0), pt(0, 0), -most - 1, true, api.Frac{}, api.ErrRange},
	} {
		if f, e := Cross(c.p, c.q, c.c, c.up); f != c.f || e != c.e {
			t.Error(i, f, e)
		}
	}
}

func TestP23_4Symmetry(t *testing.T) {
	rnd := rand.New(rand.NewSource(23))
	n := func(bits int) int { return rnd.Intn(1<<bits) - 1<<(bits-1) }
	for range 20000 {
		bits := 1 + rnd.Intn(52)
		p, q := pt(n(bits), n(bits)), pt(n(bits), n(bits))
		if p.X == q.X {
			continue
		}
		c := p.X + (q.X-p.X)/(1+rnd.Intn(5))
		f, e := Cross(p, q, c, false)
		if g, _ := Cross(q, p, c, false); g != f || e != api.OK || !Right(f) {
			t.Fatal(p, q, c, f, g, e)
		}
		if g, e := Cross(pt(p.Y, p.X), pt(q.Y, q.X), c, true); g != f || e != api.OK {
			t.Fatal(p, q, c, f, g)
		}
		if g, e := Cross(p, q, p.X, false); g != Of(p.Y) || e != api.OK {
			t.Fatal(p, q, g)
		}
		if g, e := Cross(p, q, q.X, false); g != Of(q.Y) || e != api.OK {
			t.Fatal(p, q, g)
		}
		want := big.NewRat(int64(c-p.X), int64(q.X-p.X))
		want.Mul(want, big.NewRat(int64(q.Y-p.Y), 1)).Add(want, big.NewRat(int64(p.Y), 1))
		got := new(big.Rat).SetFrac(new(big.Int).SetUint64(f.R), new(big.Int).SetUint64(f.D))
		if got.Add(got, big.NewRat(int64(f.Q), 1)).Cmp(want) != 0 {
			t.Fatal(p, q, c, f)
		}
	}
}
