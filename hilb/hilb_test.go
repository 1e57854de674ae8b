package hilb

import (
	"math/rand"
	"testing"

	"portolan/api"
)

func at(z, x, y int) api.Place { return api.Place{Z: z, X: x, Y: y} }

var wrong = []api.Place{
	at(-1, 0, 0), at(31, 0, 0), at(0, 1, 0), at(0, 0, 1), at(3, 8, 0), at(3, 0, 8), at(3, -1, 0), at(3, 0, -1),
	at(30, 1<<30, 0), at(-1<<63, 0, 0), at(1<<62, 0, 0), at(2, 1<<62, 0),
}

func TestP11_1Right(t *testing.T) {
	for _, p := range []api.Place{at(0, 0, 0), at(3, 7, 7), at(30, 1<<30-1, 1<<30-1), at(30, 0, 0)} {
		if !Right(p) {
			t.Error(p)
		}
	}
	for _, p := range wrong {
		if Right(p) {
			t.Error(p)
		}
	}
}

func TestP11_1First(t *testing.T) {
	sum := uint64(0)
	for z := 0; z <= 31; z++ {
		if First(z) != sum {
			t.Error(z, First(z), sum)
		}
		sum += 1 << (2 * z)
	}
	for _, z := range []int{32, 100, 1<<63 - 1} {
		if First(z) != First(31) {
			t.Error(z)
		}
	}
	if First(-1) != 0 || First(-1<<63) != 0 || First(31) != 1537228672809129301 {
		t.Error("ends")
	}
}

func TestP11_1Parent(t *testing.T) {
	p := at(5, 21, 30)
	for d, want := range []api.Place{p, at(4, 10, 15), at(3, 5, 7), at(2, 2, 3), at(1, 1, 1), at(0, 0, 0), p} {
		if Parent(p, d) != want {
			t.Error(d, Parent(p, d))
		}
	}
	if Parent(p, -1) != p || Parent(p, 1<<62) != p {
		t.Error("distance")
	}
	for _, q := range wrong {
		if Parent(q, 0) != q || Parent(q, 1) != q {
			t.Error(q)
		}
	}
}

func TestP11_2ID(t *testing.T) {
	for _, c := range []struct {
		p  api.Place
		id uint64
	}{
		{at(0, 0, 0), 0}, {at(1, 0, 0), 1}, {at(1, 0, 1), 2}, {at(1, 1, 1), 3}, {at(1, 1, 0), 4}, {at(2, 0, 0), 5},
		{at(12, 3423, 1763), 19078479}, {at(2, 1, 0), 6}, {at(2, 1, 1), 7}, {at(2, 0, 1), 8}, {at(2, 3, 0), 20},
	} {
		if id, e := ID(c.p); id != c.id || e != api.OK {
			t.Error(c, id, e)
		}
		if p, e := Of(c.id); p != c.p || e != api.OK {
			t.Error(c, p, e)
		}
	}
	for _, p := range wrong {
		if id, e := ID(p); id != 0 || e != api.ErrRange {
			t.Error(p, id, e)
		}
	}
}

func TestP11_2Of(t *testing.T) {
	last := First(31) - 1
	if p, e := Of(last); p != at(30, 1<<30-1, 0) || e != api.OK {
		t.Error(p, e)
	}
	for _, id := range []uint64{last + 1, 1 << 62, 1<<64 - 1} {
		if p, e := Of(id); p != (api.Place{}) || e != api.ErrRange {
			t.Error(id, p, e)
		}
	}
	rnd := rand.New(rand.NewSource(11))
	for range 20000 {
		want := rnd.Uint64() % First(1+rnd.Intn(31))
		p, e := Of(want)
		if id, f := ID(p); id != want || e != api.OK || f != api.OK || !Right(p) {
			t.Fatal(want, p, id)
		}
	}
}

func TestP11_3Neighbors(t *testing.T) {
	for id := uint64(0); id+1 < First(8); id++ {
		p, _ := Of(id)
		q, _ := Of(id + 1)
		dx, dy := p.X-q.X, p.Y-q.Y
		if p.Z == q.Z && dx*dx+dy*dy != 1 {
			t.Fatal(p, q)
		}
	}
	for id := uint64(0); id < First(6); id++ {
		p, _ := Of(id)
		low, sum := uint64(1<<63), uint64(0)
		for i := range 4 {
			child, _ := ID(at(p.Z+1, 2*p.X+i%2, 2*p.Y+i/2))
			low, sum = min(low, child), sum+child
		}
		if sum != 4*low+6 || low != First(p.Z+1)+4*(id-First(p.Z)) {
			t.Fatal(p)
		}
	}
}
