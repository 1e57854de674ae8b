package path

import (
	"math/rand"
	"slices"
	"testing"

	"portolan/api"
)

const (
	m    = api.MaxCoord
	maxI = 1<<63 - 1
	minI = -1 << 63
)

type paths = [][]api.Pt

var pairs = []struct {
	kind  int
	l     []uint32
	paths paths
}{
	{api.GeoPoint, []uint32{9, 50, 34}, paths{pts(25, 17)}},
	{api.GeoPoint, []uint32{17, 10, 14, 3, 9}, paths{pts(5, 7, 3, 2)}},
	{api.GeoLine, []uint32{9, 4, 4, 18, 0, 16, 16, 0}, paths{pts(2, 2, 2, 10, 10, 10)}},
	{api.GeoLine, []uint32{9, 4, 4, 18, 0, 16, 16, 0, 9, 17, 17, 10, 4, 8}, paths{pts(2, 2, 2, 10, 10, 10), pts(1, 1, 3, 5)}},
	{api.GeoPoly, []uint32{9, 6, 12, 18, 10, 12, 24, 44, 15}, paths{pts(3, 6, 8, 12, 20, 34)}},
	{api.GeoPoly, []uint32{9, 0, 0, 26, 20, 0, 0, 20, 19, 0, 15, 9, 22, 2, 26, 18, 0, 0, 18, 17, 0, 15}, paths{pts(0, 0, 10, 0, 10, 10, 0, 10), pts(11, 11, 20, 11, 20, 20, 11, 20)}},
	{api.GeoPoint, []uint32{17, 2 * m, 2*m - 1, 4*m - 1, 4 * m}, paths{pts(m, -m, -m, m)}},
}

func TestP9_1Commands(t *testing.T) {
	for i, p := range pairs {
		got, e := Decode(p.kind, p.l)
		want := p.paths
		if !Same(got, want) || e != api.OK {
			t.Error(i, got, e)
		}
		if l, e := Encode(p.kind, want); !slices.Equal(l, p.l) || e != api.OK {
			t.Error(i, l, e)
		}
	}
}

func TestP9_2Range(t *testing.T) {
	for i, c := range []struct {
		l []uint32
		e api.Errno
	}{
		{[]uint32{9, 2 * m, 2*m - 1}, api.OK},
		{[]uint32{9, 2*m + 2, 0}, api.ErrRange},
		{[]uint32{9, 2*m + 1, 0}, api.ErrRange},
		{[]uint32{9, 0, 2*m + 1}, api.ErrRange},
		{[]uint32{17, 2 * m, 0, 2, 0}, api.ErrRange},
		{[]uint32{17, 0, 2 * m, 0, 2}, api.ErrRange},
		{[]uint32{9, 1<<32 - 1, 0}, api.ErrRange},
		{[]uint32{9, 2*m + 2}, api.ErrRange},
		{[]uint32{25, 2*m + 2, 0}, api.ErrRange},
		{[]uint32{9, 0, 2 * m, 1}, api.ErrForm},
		{[]uint32{9, 0, 2*m + 2, 1}, api.ErrRange},
	} {
		if got, e := Decode(api.GeoPoint, c.l); e != c.e || e != api.OK && len(got) != 0 {
			t.Error(i, got, e)
		}
	}
}

func TestP9_2Errors(t *testing.T) {
	for i, c := range []struct {
		kind int
		l    []uint32
		e    api.Errno
	}{
		{0, nil, api.ErrArg},
		{4, []uint32{9, 0, 0}, api.ErrArg},
		{-1, nil, api.ErrArg},
		{api.GeoPoint, nil, api.ErrShort},
		{api.GeoLine, nil, api.ErrShort},
		{api.GeoPoly, nil, api.ErrShort},
		{api.GeoPoint, []uint32{1}, api.ErrForm},
		{api.GeoPoint, []uint32{10, 0, 0}, api.ErrForm},
		{api.GeoPoint, []uint32{15}, api.ErrForm},
		{api.GeoPoint, []uint32{9, 0}, api.ErrShort},
		{api.GeoPoint, []uint32{17, 0, 0}, api.ErrShort},
		{api.GeoPoint, []uint32{1<<32 - 7, 0, 0}, api.ErrShort},
		{api.GeoPoint, []uint32{9, 0, 0, 9, 0, 0}, api.ErrForm},
		{api.GeoLine, []uint32{9, 0, 0}, api.ErrShort},
		{api.GeoLine, []uint32{17, 0, 0, 0, 0, 10, 0, 0}, api.ErrForm},
		{api.GeoLine, []uint32{9, 0, 0, 2}, api.ErrForm},
		{api.GeoLine, []uint32{9, 0, 0, 9, 0, 0}, api.ErrForm},
		{api.GeoLine, []uint32{9, 0, 0, 10, 0, 0, 15}, api.ErrForm},
		{api.GeoLine, []uint32{9, 0, 0, 10, 0, 0, 9}, api.ErrShort},
		{api.GeoLine, []uint32{9, 0, 0, 10, 0, 0, 1}, api.ErrForm},
		{api.GeoLine, []uint32{9, 0, 0, 18, 0, 0}, api.ErrShort},
		{api.GeoPoly, []uint32{9, 0, 0, 10, 0, 0, 15}, api.ErrForm},
		{api.GeoPoly, []uint32{9, 0, 0, 18, 0, 0, 0, 0}, api.ErrShort},
		{api.GeoPoly, []uint32{9, 0, 0, 18, 0, 0, 0, 0, 7}, api.ErrForm},
		{api.GeoPoly, []uint32{9, 0, 0, 18, 0, 0, 0, 0, 23}, api.ErrForm},
		{api.GeoPoly, []uint32{9, 0, 0, 18, 0, 0, 0, 0, 9}, api.ErrForm},
		{api.GeoPoly, []uint32{9, 0, 0, 18, 0, 0, 0, 0, 15, 15}, api.ErrForm},
		{api.GeoPoly, []uint32{9, 0, 0, 18, 0, 0, 0, 0, 15, 9}, api.ErrShort},
	} {
		if got, e := Decode(c.kind, c.l); e != c.e || len(got) != 0 {
			t.Error(i, got, e)
		}
	}
}

func TestP9_3Right(t *testing.T) {
	two, three := pts(1, 1, 1, 1), pts(0, 0, 0, 0, m, -m)
	for i, c := range []struct {
		kind  int
		paths paths
		e     api.Errno
	}{
		{0, paths{two}, api.ErrArg},
		{4, nil, api.ErrArg},
		{api.GeoPoint, nil, api.ErrForm},
		{api.GeoLine, nil, api.ErrForm},
		{api.GeoPoly, paths{}, api.ErrForm},
		{api.GeoPoint, paths{two}, api.OK},
		{api.GeoPoint, paths{{}}, api.ErrForm},
		{api.GeoPoint, paths{two, two}, api.ErrForm},
		{api.GeoLine, paths{two, three}, api.OK},
		{api.GeoLine, paths{two, two[:1]}, api.ErrForm},
		{api.GeoPoly, paths{three, three}, api.OK},
		{api.GeoPoly, paths{three, two}, api.ErrForm},
		{api.GeoPoint, paths{pts(m+1, 0)}, api.ErrRange},
		{api.GeoPoint, paths{pts(0, -m-1)}, api.ErrRange},
		{api.GeoPoint, paths{pts(0, maxI)}, api.ErrRange},
		{api.GeoPoint, paths{pts(minI, 0)}, api.ErrRange},
		{api.GeoLine, paths{pts(m+1, 0, 0, 0), pts(0, 0)}, api.ErrForm},
	} {
		if e := Right(c.kind, c.paths); e != c.e {
			t.Error(i, e)
		}
		if l, e := Encode(c.kind, c.paths); e != c.e || e != api.OK && len(l) != 0 {
			t.Error(i, l, e)
		}
	}
}

func TestP9_3Same(t *testing.T) {
	a := paths{pts(1, 2), pts(3, 4, 5, 6)}
	for i, c := range []struct {
		b    paths
		same bool
	}{
		{paths{pts(1, 2), pts(3, 4, 5, 6)}, true},
		{paths{pts(1, 2), pts(3, 4)}, false},
		{paths{pts(1, 2)}, false},
		{paths{pts(1, 2), pts(3, 4, 5, 7)}, false},
		{paths{pts(0, 2), pts(3, 4, 5, 6)}, false},
		{nil, false},
	} {
		if Same(a, c.b) != c.same || Same(c.b, a) != c.same {
			t.Error(i)
		}
	}
	if !Same(nil, paths{}) || !Same(paths{nil}, paths{{}}) || Same(nil, paths{nil}) {
		t.Error("empty")
	}
}

func TestP9_4RoundTrip(t *testing.T) {
	rnd := rand.New(rand.NewSource(9))
	for range 1000 {
		kind := 1 + rnd.Intn(3)
		var ps paths
		for range 1 + rnd.Intn(3) {
			var l []api.Pt
			for range 3 + rnd.Intn(5) {
				l = append(l, api.Pt{X: rnd.Intn(2*m+1) - m, Y: rnd.Intn(2*m+1) - m})
			}
			ps = append(ps, l)
		}
		if kind == api.GeoPoint {
			ps = ps[:1]
		}
		l, e := Encode(kind, ps)
		got, f := Decode(kind, l)
		again, _ := Encode(kind, got)
		if e != api.OK || f != api.OK || !Same(got, ps) || !slices.Equal(again, l) {
			t.Fatal(kind, ps, e, f)
		}
	}
}

// pts returns the points with these coordinates.
func pts(n ...int) []api.Pt {
	l := make([]api.Pt, len(n)/2)
	for i := range l {
		l[i] = api.Pt{X: n[2*i], Y: n[2*i+1]}
	}
	return l
}
