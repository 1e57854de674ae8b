package over

import (
	"math/rand"
	"slices"
	"testing"

	"portolan/api"
	"portolan/norm"
	"portolan/path"
	"portolan/tile"
	"portolan/wind"
)

func pts(n ...int) []api.Pt {
	l := make([]api.Pt, len(n)/2)
	for i := range l {
		l[i] = api.Pt{X: n[2*i], Y: n[2*i+1]}
	}
	return l
}

func zoom(up, x, y, buffer int) api.Zoom { return api.Zoom{Up: up, X: x, Y: y, Buffer: buffer} }

func made(kind int, paths ...[]api.Pt) api.Feature {
	return api.Feature{HasID: true, ID: 5, Type: kind, Paths: paths, Attrs: []api.Attr{{Key: "k", Val: api.Value{Kind: api.ValInt, Bits: 3}}}}
}

func TestP28_1Right(t *testing.T) {
	for _, c := range []struct {
		z      api.Zoom
		extent int
		ok     bool
	}{
		{zoom(0, 0, 0, 0), 1, true},
		{zoom(0, 0, 0, 1), 1, true},
		{zoom(0, 0, 0, 2), 1, false},
		{zoom(0, 0, 0, -1), 4096, false},
		{zoom(0, 0, 0, 4096), 4096, true},
		{zoom(0, 0, 0, 0), 0, false},
		{zoom(0, 0, 0, 0), -1, false},
		{zoom(0, 0, 0, 0), api.MaxExtent, true},
		{zoom(0, 0, 0, 0), api.MaxExtent + 1, false},
		{zoom(30, 1<<30-1, 1<<30-1, 0), 4, true},
		{zoom(31, 0, 0, 0), 4, false},
		{zoom(-1, 0, 0, 0), 4, false},
		{zoom(2, 3, 4, 0), 4, false},
		{zoom(2, 4, 3, 0), 4, false},
		{zoom(2, -1, 3, 0), 4, false},
		{zoom(2, 3, -1, 0), 4, false},
		{zoom(1<<62, 0, 0, 0), 4, false},
	} {
		if Right(c.z, c.extent) != c.ok {
			t.Error(c)
		}
		f, ok := Feature(made(api.GeoPoint, pts(0, 0)), c.z, c.extent)
		if !c.ok && (ok || f.Type != 0 || len(f.Paths)+len(f.Attrs) > 0) {
			t.Error(c, f, ok)
		}
	}
}

func TestP28_1Scale(t *testing.T) {
	for _, c := range []struct {
		p      api.Pt
		z      api.Zoom
		extent int
		want   api.Pt
	}{
		{api.Pt{X: 3, Y: 5}, zoom(1, 1, 0, 0), 4, api.Pt{X: 2, Y: 10}},
		{api.Pt{X: 3, Y: -5}, zoom(0, 0, 0, 0), 4, api.Pt{X: 3, Y: -5}},
		{api.Pt{X: 3, Y: -5}, zoom(0, 0, 1, 0), 4, api.Pt{}},
		{api.Pt{X: -api.MaxCoord, Y: api.MaxCoord}, zoom(30, 0, 1<<30-1, 0), 1 << 16, api.Pt{X: -1 << 50, Y: 1<<50 - 1<<46 + 1<<16}},
	} {
		if p := Scale(c.p, c.z, c.extent); p != c.want {
			t.Error(c, p)
		}
	}
}

func TestP28_2Feature(t *testing.T) {
	for i, c := range []struct {
		kind   int
		paths  [][]api.Pt
		z      api.Zoom
		extent int
		want   [][]api.Pt
	}{
		{api.GeoPoint, [][]api.Pt{pts(1, 1, 3, 3, 4, 4, 1, 1)}, zoom(1, 0, 0, 1), 4, [][]api.Pt{pts(2, 2, 2, 2)}},
		{api.GeoPoint, [][]api.Pt{pts(3, 3, 1, 3, 2, 2)}, zoom(1, 1, 1, 0), 4, [][]api.Pt{pts(2, 2, 0, 0)}},
		{api.GeoPoint, [][]api.Pt{pts(0, 0)}, zoom(1, 1, 0, 3), 4, nil},
		{api.GeoPoint, [][]api.Pt{pts(0, 0)}, zoom(1, 1, 0, 4), 4, [][]api.Pt{pts(-4, 0)}},
		{api.GeoPoint, [][]api.Pt{pts(6, 0)}, zoom(0, 0, 0, 1), 4, nil},
		{api.GeoLine, [][]api.Pt{pts(0, 1, 4, 1), pts(0, 3, 4, 3), pts(1, 1, 1, 1)}, zoom(1, 0, 0, 1), 4, [][]api.Pt{pts(0, 2, 5, 2)}},
		{api.GeoLine, [][]api.Pt{pts(0, 0, 4, 0, 4, 1, 0, 1)}, zoom(1, 0, 0, 0), 4, [][]api.Pt{pts(0, 0, 4, 0), pts(4, 2, 0, 2)}},
		{api.GeoLine, [][]api.Pt{pts(0, 4, 4, 0)}, zoom(1, 0, 0, 0), 4, nil},
		{api.GeoLine, [][]api.Pt{pts(0, 0, 6, 1)}, zoom(1, 0, 0, 1), 4, [][]api.Pt{pts(0, 0, 5, 1)}},
		{api.GeoPoly, [][]api.Pt{pts(0, 0, 3, 0, 0, 3)}, zoom(1, 0, 0, 0), 4, [][]api.Pt{pts(0, 0, 4, 0, 4, 2, 2, 4, 0, 4)}},
		{api.GeoPoly, [][]api.Pt{pts(0, 0, 0, 3, 3, 0)}, zoom(1, 0, 0, 0), 4, [][]api.Pt{pts(0, 0, 0, 4, 2, 4, 4, 2, 4, 0)}},
		// the hole lies in the other half
		{api.GeoPoly, [][]api.Pt{pts(0, 0, 4, 0, 4, 4, 0, 4), pts(3, 3, 3, 2, 2, 3)}, zoom(1, 0, 0, 0), 4, [][]api.Pt{pts(0, 0, 4, 0, 4, 4, 0, 4)}},
		// the first ring of the group lies in the other half, and so its hole goes, too
		{api.GeoPoly, [][]api.Pt{pts(3, 3, 4, 3, 4, 4), pts(1, 0, 0, 0, 0, 1), pts(0, 0, 1, 0, 1, 1)}, zoom(1, 0, 0, 0), 4, [][]api.Pt{pts(0, 0, 2, 0, 2, 2)}},
		{api.GeoPoly, [][]api.Pt{pts(0, 0, 4, 0, 4, 4, 0, 4), pts(0, 0, 0, 1, 1, 0)}, zoom(1, 0, 0, 0), 4, [][]api.Pt{pts(0, 0, 4, 0, 4, 4, 0, 4), pts(0, 0, 0, 2, 2, 0)}},
		{api.GeoPoly, [][]api.Pt{pts(0, 0, 1, 1, 2, 2)}, zoom(1, 0, 0, 0), 4, nil},
		{api.GeoPoly, [][]api.Pt{pts(0, 0, 1, 1, 2, 2), pts(0, 0, 1, 0, 1, 1)}, zoom(1, 0, 0, 0), 4, [][]api.Pt{pts(0, 0, 2, 0, 2, 2)}},
		// what remains has no area
		{api.GeoPoly, [][]api.Pt{pts(2, 0, 4, 0, 2, 2)}, zoom(1, 0, 0, 0), 4, nil},
	} {
		f := made(c.kind, c.paths...)
		want := made(c.kind, c.want...)
		got, ok := Feature(f, c.z, c.extent)
		if ok != (c.want != nil) || !ok && len(got.Paths) > 0 {
			t.Error(i, got, ok)
		} else if ok && !tile.Same([]api.Layer{{Features: []api.Feature{got}}}, []api.Layer{{Features: []api.Feature{want}}}) {
			t.Error(i, got)
		}
	}
	for i, f := range []api.Feature{made(0, pts(0, 0)), made(api.GeoPoint), made(api.GeoLine, pts(0, 0)), made(api.GeoPoint, pts(api.MaxCoord+1, 0))} {
		if got, ok := Feature(f, zoom(0, 0, 0, 0), 4); ok || got.HasID {
			t.Error(i, got)
		}
	}
}

// Clipping and rounding leaves some rings without area, or turns them the other way round.
func TestP28_2TurnedRings(t *testing.T) {
	rnd := rand.New(rand.NewSource(28))
	turned := 0
	for range 200000 {
		l := make([]api.Pt, 4)
		for i := range l {
			l[i] = api.Pt{X: rnd.Intn(40) - 20, Y: rnd.Intn(40) - 20}
		}
		z := zoom(0, 0, 0, 0)
		got, ok := Feature(api.Feature{Type: api.GeoPoly, Paths: [][]api.Pt{l}}, z, 3)
		if ok && wind.Sign(got.Paths[0]) != wind.Sign(l) {
			t.Fatal(l, got)
		}
		if w := opened(z, 3); !ok && wind.Sign(l) != 0 {
			if out, there := w.ring(l); there || len(out) > 0 {
				t.Fatal(l)
			}
			turned++
		}
	}
	if turned == 0 {
		t.Error("none")
	}
}

func TestP28_3Layer(t *testing.T) {
	x := api.Layer{Name: "a", Extent: 4, Features: []api.Feature{made(api.GeoPoint, pts(1, 1)), made(api.GeoPoint, pts(3, 3)), made(api.GeoLine, pts(0, 0, 1, 1))}}
	got, e := Layer(x, zoom(1, 0, 0, 0))
	want := api.Layer{Name: "a", Extent: 4, Features: []api.Feature{made(api.GeoPoint, pts(2, 2)), made(api.GeoLine, pts(0, 0, 2, 2))}}
	if !tile.Same([]api.Layer{got}, []api.Layer{want}) || e != api.OK {
		t.Error(got, e)
	}
	got, e = Layer(x, zoom(3, 7, 0, 0))
	if got.Name != "a" || got.Extent != 4 || len(got.Features) != 0 || e != api.OK {
		t.Error(got, e)
	}
	if len(x.Features) != 3 || !path.Same(x.Features[0].Paths, [][]api.Pt{pts(1, 1)}) {
		t.Error("the argument was changed")
	}
	wrong := x
	wrong.Name = "\xff"
	for i, c := range []struct {
		x api.Layer
		z api.Zoom
		e api.Errno
	}{
		{x, zoom(0, 0, 0, 4), api.OK},
		{x, zoom(0, 0, 0, 5), api.ErrArg},
		{x, zoom(0, 1, 0, 0), api.ErrArg},
		{wrong, zoom(0, 0, 0, 0), api.ErrForm},
		{wrong, zoom(0, 1, 0, 0), api.ErrForm},
		{api.Layer{}, zoom(0, 0, 0, 0), api.ErrForm},
	} {
		if got, e := Layer(c.x, c.z); e != c.e || e != api.OK && got.Extent != 0 {
			t.Error(i, got, e)
		}
	}
}

func TestP28_3Grow(t *testing.T) {
	const m = api.MaxCoord
	x := api.Layer{Name: "a", Extent: 4, Features: []api.Feature{made(api.GeoLine, pts(-1, 2, 3, 4)), made(api.GeoPoint, pts(m/2, -m/2))}}
	got, e := Grow(x, 8)
	want := api.Layer{Name: "a", Extent: 8, Features: []api.Feature{made(api.GeoLine, pts(-2, 4, 6, 8)), made(api.GeoPoint, pts(m, -m))}}
	if !tile.Same([]api.Layer{got}, []api.Layer{want}) || e != api.OK {
		t.Error(got, e)
	}
	got.Features[0].Paths[0][0].X = 77
	if x.Features[0].Paths[0][0].X != -1 {
		t.Error("the argument was changed")
	}
	empty := api.Layer{Name: "b", Extent: 1}
	for i, c := range []struct {
		x      api.Layer
		extent int
		e      api.Errno
	}{
		{x, 4, api.OK},
		{x, 12, api.ErrRange},
		{x, 6, api.ErrRange},
		{x, 2, api.ErrRange},
		{x, 1, api.ErrRange},
		{x, 0, api.ErrArg},
		{x, -4, api.ErrArg},
		{x, api.MaxExtent + 4, api.ErrArg},
		{empty, api.MaxExtent, api.OK},
		{api.Layer{}, 0, api.ErrForm},
		{api.Layer{Name: "\xff", Extent: 1}, 1, api.ErrForm},
	} {
		if got, e := Grow(c.x, c.extent); e != c.e || e != api.OK && got.Name != "" || e == api.OK && got.Extent != c.extent {
			t.Error(i, got, e)
		}
	}
}

func random(rnd *rand.Rand, kind, extent int) api.Feature {
	f := api.Feature{Type: kind}
	for range 1 + rnd.Intn(3) {
		var l []api.Pt
		for range 3 + rnd.Intn(5) {
			l = append(l, api.Pt{X: rnd.Intn(3*extent) - extent, Y: rnd.Intn(3*extent) - extent})
		}
		f.Paths = append(f.Paths, l)
	}
	if kind == api.GeoPoint {
		f.Paths = f.Paths[:1]
	}
	return f
}

func TestP28_4Window(t *testing.T) {
	rnd := rand.New(rand.NewSource(29))
	for range 5000 {
		kind, extent, up := 1+rnd.Intn(3), 1+rnd.Intn(64), rnd.Intn(4)
		z := zoom(up, rnd.Intn(1<<up), rnd.Intn(1<<up), rnd.Intn(extent+1))
		got, ok := Feature(random(rnd, kind, extent), z, extent)
		if !ok {
			continue
		}
		if path.Right(kind, got.Paths) != api.OK {
			t.Fatal(got)
		}
		for _, l := range got.Paths {
			if len(norm.Points(l, -z.Buffer, extent+z.Buffer)) != len(l) {
				t.Fatal(z, extent, got)
			}
		}
	}
}

func TestP28_4Steps(t *testing.T) {
	rnd := rand.New(rand.NewSource(30))
	met := 0
	for range 20000 {
		extent, up := 2+rnd.Intn(30), 1+rnd.Intn(3)
		x, y, buffer := rnd.Intn(1<<up), rnd.Intn(1<<up), rnd.Intn(extent+1)
		f := random(rnd, api.GeoPoint, extent)
		f.Paths[0] = append(f.Paths[0], api.Pt{X: x * extent >> up, Y: y * extent >> up})
		// The first tile contains points up to the buffer alone.
		f, ok := Feature(f, zoom(0, 0, 0, buffer), extent)
		if !ok {
			continue
		}
		once, ok := Feature(f, zoom(up, x, y, buffer), extent)
		steps, still := f, true
		for i := up - 1; i >= 0 && still; i-- {
			steps, still = Feature(steps, zoom(1, x>>i&1, y>>i&1, buffer), extent)
		}
		if ok != still || ok && !path.Same(once.Paths, steps.Paths) {
			t.Fatal(f, up, x, y, buffer, once, steps)
		}
		if ok {
			met++
		}
	}
	if met < 1000 {
		t.Error(met)
	}
}

func TestP28_5Unchanged(t *testing.T) {
	rnd := rand.New(rand.NewSource(31))
	for range 3000 {
		kind, extent, up := 1+rnd.Intn(2), 8+rnd.Intn(30), rnd.Intn(3)
		z := zoom(up, rnd.Intn(1<<up), rnd.Intn(1<<up), extent)
		f := api.Feature{Type: kind}
		var l []api.Pt
		for range 2 + rnd.Intn(6) {
			p := api.Pt{X: (z.X*extent + rnd.Intn(extent)) >> up, Y: (z.Y*extent + rnd.Intn(extent)) >> up}
			l = append(l, p)
		}
		f.Paths = [][]api.Pt{l}
		var want []api.Pt
		for _, p := range l {
			want = append(want, Scale(p, z, extent))
		}
		if kind == api.GeoLine {
			want = slices.Compact(want)
		}
		got, ok := Feature(f, z, extent)
		if kind == api.GeoLine && len(want) < 2 {
			if ok {
				t.Fatal(f, got)
			}
		} else if !ok || !path.Same(got.Paths, [][]api.Pt{want}) {
			t.Fatal(z, extent, f, got)
		}
	}
}
