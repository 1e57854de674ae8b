package wind

import (
	"math/rand"
	"slices"
	"testing"

	"portolan/api"
)

const m = 1 << 21

func pts(n ...int) []api.Pt {
	l := make([]api.Pt, len(n)/2)
	for i := range l {
		l[i] = api.Pt{X: n[2*i], Y: n[2*i+1]}
	}
	return l
}

func pt(x, y int) api.Pt { return api.Pt{X: x, Y: y} }

func TestP27_1Area(t *testing.T) {
	large := make([]api.Pt, 1<<18)
	for i := range large {
		large[i] = pts(-m, -m, m, -m, m, m, -m, m)[i%4]
	}
	for i, c := range []struct {
		l  []api.Pt
		n  int
		ok bool
	}{
		{nil, 0, true},
		{pts(5, 7), 0, true},
		{pts(5, 7, 1, 2), 0, true},
		{pts(0, 0, 4, 0, 4, 3), 12, true},
		{pts(4, 3, 4, 0, 0, 0), -12, true},
		{pts(0, 0, 4, 0, 4, 3, 0, 3), 24, true},
		{pts(0, 0, 4, 4, 4, 0, 0, 4), 0, true},
		{pts(-m, -m, m, -m, m, m, -m, m), 8 * m * m, true},
		{pts(0, 0, m+1, 0, 0, 5), 0, false},
		{pts(0, 0, 0, -m-1, 3, 5), 0, false},
		{pts(-1<<63, 0), 0, false},
		{large, 8 * m * m * (1 << 16), true},
		{append(slices.Clone(large), pt(0, 0)), 0, false},
	} {
		if n, ok := Area(c.l); n != c.n || ok != c.ok {
			t.Error(i, n, ok)
		}
		want := 0
		if c.n > 0 {
			want = 1
		} else if c.n < 0 {
			want = -1
		}
		if Sign(c.l) != want {
			t.Error(i, Sign(c.l))
		}
	}
}

func TestP27_2Around(t *testing.T) {
	square := pts(0, 0, 4, 0, 4, 4, 0, 4)
	twice := append(slices.Clone(square), square...)
	back := slices.Clone(square)
	slices.Reverse(back)
	for i, c := range []struct {
		l    []api.Pt
		p    api.Pt
		n    int
		free bool
	}{
		{pts(0, 0, 4, 0, 4, 3), pt(3, 1), 1, true},
		{square, pt(2, 2), 1, true},
		{back, pt(2, 2), -1, true},
		{twice, pt(1, 3), 2, true},
		{square, pt(5, 2), 0, true},
		{square, pt(-1, 4), 0, true},
		{square, pt(-1, 0), 0, true},
		{square, pt(0, 2), 0, false},
		{square, pt(2, 4), 0, false},
		{square, pt(4, 4), 0, false},
		{pts(0, 0, 2, 2, 4, 0), pt(2, 0), 0, false},
		{pts(0, 0, 4, 4, 4, 0, 0, 4), pt(1, 2), 1, true},
		{pts(0, 0, 4, 4, 4, 0, 0, 4), pt(3, 2), -1, true},
		{pts(0, 0, 4, 4, 4, 0, 0, 4), pt(2, 2), 0, false},
		{pts(0, 0, 2, 2, 4, 0, 2, 6), pt(2, 3), 1, true},
		{pts(0, 0, 2, 2, 4, 0, 2, 6), pt(2, 1), 0, true},
		{nil, pt(0, 0), 0, true},
		{pts(1, 1), pt(1, 1), 0, false},
		{pts(1, 1), pt(1, 2), 0, true},
		{pts(1, 1, 3, 3), pt(2, 2), 0, false},
		{square, pt(m+1, 2), 0, false},
		{square, pt(2, -m-1), 0, false},
		{square, pt(m, -m), 0, true},
		{pts(0, 0, m+1, 0, 0, 4), pt(1, 1), 0, false},
		{make([]api.Pt, 1<<18), pt(1, 1), 0, true},
		{make([]api.Pt, 1<<18+1), pt(1, 1), 0, false},
	} {
		if n, free := Around(c.l, c.p); n != c.n || free != c.free {
			t.Error(i, n, free)
		}
	}
}

func TestP27_3Groups(t *testing.T) {
	plus, minus, flat := pts(0, 0, 4, 0, 4, 3), pts(4, 3, 4, 0, 0, 0), pts(0, 0, 1, 1, 2, 2)
	for i, c := range []struct {
		rings [][]api.Pt
		want  [][]int
	}{
		{[][]api.Pt{plus}, [][]int{{0}}},
		{[][]api.Pt{plus, minus, minus, plus, minus}, [][]int{{0, 1, 2}, {3, 4}}},
		{[][]api.Pt{minus, plus, minus}, [][]int{{0, 1}, {2}}},
		{[][]api.Pt{flat, minus, flat, plus, flat}, [][]int{{1, 3}}},
		{[][]api.Pt{plus, plus, nil, plus}, [][]int{{0}, {1}, {3}}},
		{[][]api.Pt{flat, nil}, nil},
		{nil, nil},
	} {
		got, ok := Groups(c.rings)
		if !slices.EqualFunc(got, c.want, slices.Equal[[]int]) || ok != (c.want != nil) {
			t.Error(i, got, ok)
		}
	}
}

func TestP27_4Consequences(t *testing.T) {
	rnd := rand.New(rand.NewSource(27))
	for range 3000 {
		var l []api.Pt
		low, high := pt(99, 99), pt(-99, -99)
		for range 1 + rnd.Intn(7) {
			p := pt(rnd.Intn(9), rnd.Intn(9))
			l = append(l, p)
			low, high = pt(min(low.X, p.X), min(low.Y, p.Y)), pt(max(high.X, p.X), max(high.Y, p.Y))
		}
		back := slices.Clone(l)
		slices.Reverse(back)
		n, _ := Area(l)
		if k, _ := Area(back); k != -n {
			t.Fatal(l)
		}
		p := pt(rnd.Intn(15)-3, rnd.Intn(15)-3)
		a, free := Around(l, p)
		if b, ok := Around(back, p); b != -a || ok != free {
			t.Fatal(l, p)
		}
		if (p.X < low.X || p.Y < low.Y || p.X > high.X || p.Y > high.Y) && (a != 0 || !free) {
			t.Fatal(l, p)
		}
	}
}
