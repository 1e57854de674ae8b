package norm

import (
	"math/rand"
	"slices"
	"testing"

	"portolan/api"
	"portolan/frac"
)

func pts(n ...int) []api.Pt {
	l := make([]api.Pt, len(n)/2)
	for i := range l {
		l[i] = api.Pt{X: n[2*i], Y: n[2*i+1]}
	}
	return l
}

// thirds returns the spots with these coordinates, divided by three.
func thirds(n ...int) []api.Spot {
	var l []api.Spot
	for _, p := range pts(n...) {
		l = append(l, api.Spot{X: third(p.X), Y: third(p.Y)})
	}
	return l
}

func third(n int) api.Frac {
	r := (n%3 + 3) % 3
	f, _ := frac.Make((n-r)/3, uint64(r), 3)
	return f
}

func TestP26_1Round(t *testing.T) {
	half := api.Frac{Q: 2, R: 1, D: 2}
	minus := api.Frac{Q: -3, R: 1, D: 2}
	got := Round(append(thirds(0, 1, 2, -1, -2, 9), api.Spot{X: half, Y: minus}, api.Spot{X: half}))
	if !slices.Equal(got, pts(0, 0, 1, 0, -1, 3, 3, -2, 3, 0)) {
		t.Error(got)
	}
	if len(Round(nil)) != 0 {
		t.Error("nothing")
	}
}

func TestP26_1Simple(t *testing.T) {
	for i, c := range []struct{ l, open, closed []api.Pt }{
		{nil, nil, nil},
		{pts(1, 2), pts(1, 2), pts(1, 2)},
		{pts(1, 2, 1, 2, 1, 2), pts(1, 2), pts(1, 2)},
		{pts(0, 0, 0, 0, 1, 0, 0, 0), pts(0, 0, 1, 0, 0, 0), pts(0, 0, 1, 0)},
		{pts(0, 0, 1, 0, 0, 0, 0, 0), pts(0, 0, 1, 0, 0, 0), pts(0, 0, 1, 0)},
		{pts(0, 0, 1, 0, 0, 0, 1, 0), pts(0, 0, 1, 0, 0, 0, 1, 0), pts(0, 0, 1, 0, 0, 0, 1, 0)},
		{pts(0, 0, 0, 1, 1, 1), pts(0, 0, 0, 1, 1, 1), pts(0, 0, 0, 1, 1, 1)},
	} {
		before := slices.Clone(c.l)
		if got := Simple(c.l, false); !slices.Equal(got, c.open) {
			t.Error(i, got)
		}
		got := Simple(c.l, true)
		if !slices.Equal(got, c.closed) {
			t.Error(i, got)
		}
		_ = append(got, pts(9, 9)...)
		if !slices.Equal(c.l, before) {
			t.Error(i, "the argument was changed")
		}
	}
}

func TestP26_1Points(t *testing.T) {
	if got := Points(pts(0, 0, 5, 5, 6, 5, 5, 6, -1, 0, 0, -1, 0, 0), 0, 5); !slices.Equal(got, pts(0, 0, 5, 5, 0, 0)) {
		t.Error(got)
	}
	if len(Points(pts(0, 0), 1, 0)) != 0 || len(Points(nil, 0, 1)) != 0 {
		t.Error("none")
	}
}

func TestP26_2Lines(t *testing.T) {
	got := Lines([][]api.Spot{thirds(0, 0, 1, 1, 4, 4), thirds(0, 0, 1, 1), nil, thirds(6, 6), thirds(3, 0, 9, 0, 3, 0)})
	want := [][]api.Pt{pts(0, 0, 1, 1), pts(1, 0, 3, 0, 1, 0)}
	if !slices.EqualFunc(got, want, slices.Equal[[]api.Pt]) {
		t.Error(got)
	}
}

func TestP26_2Ring(t *testing.T) {
	for i, c := range []struct {
		l    []api.Spot
		want []api.Pt
	}{
		{thirds(0, 0, 9, 0, 9, 9), pts(0, 0, 3, 0, 3, 3)},
		{thirds(0, 0, 9, 0, 9, 9, 0, 1), pts(0, 0, 3, 0, 3, 3)},
		{thirds(0, 0, 9, 0, 9, 1), nil},
		{thirds(0, 0, 9, 0, 1, 1), nil},
		{thirds(0, 0, 9, 0, 0, 0, 9, 0), pts(0, 0, 3, 0, 0, 0, 3, 0)},
		{nil, nil},
	} {
		if got, ok := Ring(c.l); !slices.Equal(got, c.want) || ok != (c.want != nil) {
			t.Error(i, got, ok)
		}
	}
}

func TestP26_3Rounding(t *testing.T) {
	rnd := rand.New(rand.NewSource(26))
	for range 20000 {
		n := rnd.Intn(1<<40) - 1<<39
		if p := Round([]api.Spot{{X: frac.Of(n), Y: frac.Of(-n)}}); p[0] != (api.Pt{X: n, Y: -n}) {
			t.Fatal(p)
		}
		lo := rnd.Intn(20) - 10
		hi := lo + rnd.Intn(9)
		x := third(3*lo + rnd.Intn(3*(hi-lo)+1))
		if p := Round([]api.Spot{{X: x, Y: x}}); len(Points(p, lo, hi)) != 1 {
			t.Fatal(lo, hi, x, p)
		}
	}
}
