package comp

import (
	"bytes"
	"slices"
	"strings"
	"testing"

	"portolan/api"
	"portolan/join"
	"portolan/over"
	"portolan/sample"
	"portolan/tile"
)

func TestP31_1File(t *testing.T) {
	files := []api.File{{Name: "a", Data: []byte("1")}, {Name: "b"}, {Name: "a", Data: []byte("2")}}
	b, ok := File(files, "a")
	if string(b) != "1" || !ok {
		t.Error(b, ok)
	}
	b[0] = 'z'
	if string(files[0].Data) != "1" {
		t.Error("shared")
	}
	if b, ok := File(files, "b"); len(b) != 0 || !ok {
		t.Error(b, ok)
	}
	if b, ok := File(files, "c"); len(b) != 0 || ok {
		t.Error(b, ok)
	}
}

func TestP31_1Range(t *testing.T) {
	files := sample.Files()
	all := sample.Composites()
	for i, c := range []struct {
		c                 api.Composite
		low, high, status int
	}{
		{all[0], 0, 5, api.StOK},
		{all[1], 1, 3, api.StOK},
		{sample.One("x", "bad"), 0, 0, api.StBroken},
		{sample.One("x", "missing"), 0, 0, api.StBroken},
		{sample.One("x", "undescribed"), 0, 5, api.StOK},
		{api.Composite{MaxZoom: 5}, 0, 0, api.StBroken},
		{api.Composite{Sources: append(slices.Clone(all[0].Sources), api.Source{Archive: "bad"}), MaxZoom: 5}, 0, 0, api.StBroken},
		{api.Composite{Sources: all[0].Sources[1:], MaxZoom: 0}, 1, 0, api.StOK},
	} {
		if low, high, status := Range(files, c.c); low != c.low || high != c.high || status != c.status {
			t.Error(i, low, high, status)
		}
	}
}

func names(l []api.Layer) []string {
	var out []string
	for _, x := range l {
		out = append(out, x.Name)
	}
	return out
}

func TestP31_1Rename(t *testing.T) {
	l := []api.Layer{{Name: "a", Extent: 1, Features: make([]api.Feature, 1)}, {Name: "b", Extent: 2}, {Name: "c", Extent: 3}}
	for i, c := range []struct {
		pairs [][2]string
		want  []string
	}{
		{nil, []string{"a", "b", "c"}},
		{[][2]string{{"c", "x"}, {"a", "y"}, {"a", "z"}, {"d", "w"}}, []string{"y", "x"}},
		{[][2]string{{"a", "b"}, {"b", "b"}}, []string{"b", "b"}},
		{[][2]string{{"d", "a"}}, nil},
		{[][2]string{{"b", ""}}, []string{""}},
	} {
		if got := Rename(l, c.pairs); !slices.Equal(names(got), c.want) {
			t.Error(i, got)
		}
	}
	for _, pairs := range [][][2]string{nil, {{"a", "x"}}} {
		got := Rename(l, pairs)
		got[0].Features[0].ID = 9
		if l[0].Features[0].ID != 0 || l[0].Name != "a" {
			t.Error("shared")
		}
	}
}

func TestP31_2Source(t *testing.T) {
	files := sample.Files()
	roads := api.Source{Archive: "roads"}
	for i, c := range []struct {
		s      api.Source
		p      api.Place
		n      int
		status int
	}{
		{roads, sample.Place(0, 0, 0), 1, api.StOK},
		{roads, sample.Place(2, 1, 3), 1, api.StOK},
		{roads, sample.Place(2, 3, 3), 0, api.StOK},
		{roads, sample.Place(5, 31, 31), 0, api.StOK},
		{roads, sample.Place(5, 20, 3), 1, api.StOK},
		{roads, sample.Place(2, 4, 0), 0, api.StOK},
		{roads, sample.Place(31, 0, 0), 0, api.StOK},
		{roads, sample.Place(-1, 0, 0), 0, api.StOK},
		{api.Source{Archive: "lands"}, sample.Place(0, 0, 0), 0, api.StOK},
		{api.Source{Archive: "lands"}, sample.Place(1, 0, 0), 2, api.StOK},
		{api.Source{Archive: "bad"}, sample.Place(2, 4, 0), 0, api.StBroken},
		{api.Source{Archive: "missing"}, sample.Place(0, 0, 0), 0, api.StBroken},
		{api.Source{Archive: "undescribed"}, sample.Place(0, 0, 0), 0, api.StBroken},
		{api.Source{Archive: "undescribed"}, sample.Place(2, 3, 3), 0, api.StOK},
		{api.Source{Archive: "garbage"}, sample.Place(0, 0, 0), 0, api.StBroken},
		{api.Source{Archive: "roads", Csv: "missing"}, sample.Place(0, 0, 0), 0, api.StBroken},
		{api.Source{Archive: "roads", Csv: "missing"}, sample.Place(2, 3, 3), 0, api.StOK},
		{api.Source{Archive: "roads", Csv: "table", Join: api.Join{Key: "none"}}, sample.Place(0, 0, 0), 0, api.StBroken},
		{api.Source{Archive: "roads", Csv: "bad", Join: api.Join{Key: "id"}}, sample.Place(0, 0, 0), 0, api.StBroken},
		{api.Source{Archive: "roads", Layers: [][2]string{{"none", "x"}}}, sample.Place(0, 0, 0), 0, api.StOK},
		{api.Source{Archive: "roads", Layers: [][2]string{{"road", "\xff"}}}, sample.Place(0, 0, 0), 0, api.StBroken},
	} {
		if l, status := Source(files, c.s, 4, c.p); len(l) != c.n || status != c.status {
			t.Error(i, l, status)
		}
	}
}

func TestP31_2Buffer(t *testing.T) {
	files := sample.Files()
	s := api.Source{Archive: "roads"}
	p := sample.Place(3, 3, 5)
	for buffer, want := range map[int]int{0: 0, 1: 1, 64: 64, 63: 63, 65: -1, -1: -1, 1 << 58: 0, 1<<58 + 2: 2} {
		l, status := Source(files, s, buffer, p)
		if want < 0 {
			if len(l) > 0 || status != api.StBroken {
				t.Error(buffer, status)
			}
			continue
		}
		x, _ := over.Layer(sample.Roads(sample.Place(2, 1, 2))[0], api.Zoom{Up: 1, X: 1, Y: 1, Buffer: want})
		if !tile.Same(l, []api.Layer{x}) || status != api.StOK {
			t.Error(buffer, l, status)
		}
	}
	// half a unit of 64ths of the extent 32 is rounded toward zero
	x, _ := over.Layer(sample.Lands()[1], api.Zoom{Buffer: 1})
	if l, _ := Source(files, api.Source{Archive: "lands"}, 3, sample.Place(1, 1, 1)); !tile.Same(l[1:], []api.Layer{x}) {
		t.Error(l)
	}
}

func TestP31_2Joined(t *testing.T) {
	files := sample.Files()
	for _, drop := range []bool{false, true} {
		j := api.Join{Key: "id", Attr: "id", Drop: drop}
		l, status := Source(files, api.Source{Archive: "roads", Csv: "table", Join: j, Layers: [][2]string{{"road", "way"}}}, 8, sample.Place(1, 0, 1))
		if status != api.StOK || len(l) != 1 || l[0].Name != "way" {
			t.Fatal(l, status)
		}
		table, _ := join.New(sample.Table, j)
		plain, _ := Source(files, api.Source{Archive: "roads"}, 8, sample.Place(1, 0, 1))
		var want []api.Feature
		for _, f := range plain[0].Features {
			attrs, ok := table.Attrs(f.Attrs)
			if ok {
				f.Attrs = attrs
				want = append(want, f)
			}
		}
		plain[0].Name, plain[0].Features = "way", want
		if !tile.Same(l, plain) || len(want) != 3 && !drop || len(want) != 2 && drop {
			t.Error(drop, l)
		}
		if a := l[0].Features[0].Attrs; a[2] != sample.Number("pop", api.ValInt, 12) || a[3] != sample.Text("kind", "x") {
			t.Error(a)
		}
	}
}

func point(x, y int) api.Feature {
	return api.Feature{Type: api.GeoPoint, Paths: [][]api.Pt{sample.Points(x, y)}}
}

func TestP31_3Merge(t *testing.T) {
	a := api.Layer{Name: "a", Extent: 4, Features: []api.Feature{point(1, 2)}}
	b := api.Layer{Name: "b", Extent: 2, Features: []api.Feature{point(1, 1)}}
	c := api.Layer{Name: "a", Extent: 8, Features: []api.Feature{point(3, 3), point(4, 4)}}
	d := api.Layer{Name: "a", Extent: 2}
	want := []api.Layer{{Name: "a", Extent: 8, Features: []api.Feature{point(2, 4), point(3, 3), point(4, 4)}}, b}
	if l, status := Merge([][]api.Layer{{a, b}, nil, {c, d}}); !tile.Same(l, want) || status != api.StOK {
		t.Error(l, status)
	}
	if l, status := Merge([][]api.Layer{{a, b, c}}); !tile.Same(l, want) || status != api.StOK {
		t.Error(l, status)
	}
	if l, status := Merge([][]api.Layer{{b}, {c}, {a}}); len(l) != 2 || l[0].Name != "b" || l[1].Features[2].Paths[0][0].Y != 4 || status != api.StOK {
		t.Error(l, status)
	}
	if l, status := Merge(nil); len(l) != 0 || status != api.StOK {
		t.Error(l, status)
	}
	odd := api.Layer{Name: "a", Extent: 3}
	wide := api.Layer{Name: "a", Extent: 2, Features: []api.Feature{point(api.MaxCoord, 0)}}
	for i, parts := range [][][]api.Layer{{{a}, {odd}}, {{odd}, {a}}, {{wide}, {a}}, {{{Name: "x"}}}, {{a, {Name: "\xff", Extent: 1}}}} {
		if l, status := Merge(parts); len(l) != 0 || status != api.StBig {
			t.Error(i, l, status)
		}
	}
}

func TestP31_3Tile(t *testing.T) {
	files := sample.Files()
	all := sample.Composites()[0]
	for _, p := range []api.Place{sample.Place(0, 0, 0), sample.Place(1, 1, 0), sample.Place(2, 3, 3), sample.Place(2, 1, 0), sample.Place(4, 5, 9), sample.Place(5, 3, 30)} {
		var parts [][]api.Layer
		for _, s := range all.Sources {
			l, _ := Source(files, s, all.Buffer, p)
			parts = append(parts, l)
		}
		merged, _ := Merge(parts)
		var want []api.Layer
		for _, x := range merged {
			if len(x.Features) > 0 {
				want = append(want, x)
			}
		}
		b, status := Tile(files, all, p)
		if len(want) == 0 {
			if len(b) > 0 || status != api.StNone {
				t.Error(p, status)
			}
			continue
		}
		bytesWanted, _ := tile.Put(want)
		if !bytes.Equal(b, bytesWanted) || status != api.StOK {
			t.Error(p, status)
		}
		if p == sample.Place(1, 1, 0) && (!slices.Equal(names(want), []string{"road", "area"}) || want[0].Extent != 64 || len(want[0].Features) != 4) {
			t.Error(want)
		}
	}
}

func TestP31_3Statuses(t *testing.T) {
	files := sample.Files()
	all := sample.Composites()
	exact := all[0]
	b, _ := Tile(files, all[0], sample.Place(1, 0, 0))
	exact.Limit = len(b)
	less := exact
	less.Limit--
	odd := api.File{Name: "odd", Data: sample.Archive(false, 0, 0, sample.RoadMeta, func(api.Place) []byte {
		return sample.Tile(api.Layer{Name: "road", Extent: 63, Features: []api.Feature{point(1, 1)}})
	})}
	empty := api.File{Name: "empty", Data: sample.Archive(false, 0, 0, sample.RoadMeta, func(api.Place) []byte {
		return sample.Tile(api.Layer{Name: "road", Extent: 64})
	})}
	two := sample.One("x", "roads")
	two.Sources = append(two.Sources, api.Source{Archive: "odd"})
	late := sample.One("x", "roads")
	late.Sources = append(late.Sources, api.Source{Archive: "garbage"})
	files = append(files, odd, empty)
	for i, c := range []struct {
		c      api.Composite
		p      api.Place
		status int
	}{
		{exact, sample.Place(1, 0, 0), api.StOK},
		{less, sample.Place(1, 0, 0), api.StBig},
		{all[0], sample.Place(6, 0, 0), api.StUnknown},
		{all[0], sample.Place(-1, 0, 0), api.StUnknown},
		{all[1], sample.Place(0, 0, 0), api.StUnknown},
		{all[1], sample.Place(0, 9, 9), api.StUnknown},
		{all[0], sample.Place(1, 2, 0), api.StBad},
		{all[0], sample.Place(1, 0, -1), api.StBad},
		{all[2], sample.Place(0, 0, 0), api.StBig},
		{sample.One("x", "bad"), sample.Place(9, 9, 9), api.StBroken},
		{sample.One("x", "missing"), sample.Place(0, 0, 0), api.StBroken},
		{sample.One("x", "garbage"), sample.Place(0, 0, 0), api.StBroken},
		{sample.One("x", "garbage"), sample.Place(0, 1, 0), api.StBad},
		{api.Composite{MaxZoom: 5, Limit: 5}, sample.Place(0, 0, 0), api.StBroken},
		{sample.One("x", "roads"), sample.Place(2, 3, 3), api.StNone},
		{sample.One("x", "empty"), sample.Place(0, 0, 0), api.StNone},
		{two, sample.Place(0, 0, 0), api.StBig},
		{late, sample.Place(0, 0, 0), api.StBroken},
		{late, sample.Place(2, 3, 3), api.StBroken},
	} {
		b, status := Tile(files, c.c, c.p)
		if status != c.status || (len(b) > 0) != (status == api.StOK) {
			t.Error(i, len(b), status)
		}
	}
}

// texts returns an archive of a tile with a text of n bytes.
func texts(n int) []byte {
	f := point(1, 1)
	f.Attrs = []api.Attr{sample.Text("name", strings.Repeat("a", n))}
	return sample.Archive(true, 0, 0, sample.RoadMeta, func(api.Place) []byte {
		return sample.Tile(api.Layer{Name: "road", Extent: 64, Features: []api.Feature{f}})
	})
}

func TestP31_3MaxData(t *testing.T) {
	const half = api.MaxData / 2
	c := sample.One("x", "a")
	c.Sources = append(c.Sources, api.Source{Archive: "b", Layers: [][2]string{{"road", "other"}}})
	c.Limit = 2 * api.MaxData
	files := func(n int) []api.File { return []api.File{{Name: "a", Data: texts(half)}, {Name: "b", Data: texts(n)}} }
	b, _ := Tile(files(half-1000), c, sample.Place(0, 0, 0))
	n := half - 1000 + api.MaxData - len(b)
	if b, status := Tile(files(n), c, sample.Place(0, 0, 0)); len(b) != api.MaxData || status != api.StOK {
		t.Error(len(b), status)
	}
	if b, status := Tile(files(n+1), c, sample.Place(0, 0, 0)); len(b) != 0 || status != api.StBig {
		t.Error(len(b), status)
	}
}

func TestP31_2BrokenDirectory(t *testing.T) {
	data := texts(5)
	data[127] ^= 0xff
	files := []api.File{{Name: "a", Data: data}}
	if l, status := Source(files, api.Source{Archive: "a"}, 0, sample.Place(0, 0, 0)); len(l) != 0 || status != api.StBroken {
		t.Error(l, status)
	}
	if l, status := Source(files, api.Source{Archive: "a"}, 0, sample.Place(0, 1, 0)); len(l) != 0 || status != api.StOK {
		t.Error(l, status)
	}
}

func TestP31_4Consequences(t *testing.T) {
	files := sample.Files()
	other := slices.Clone(files)
	for i := range other[3:] {
		other[3+i] = api.File{Name: "other", Data: []byte("x")}
	}
	met := 0
	for _, buffer := range []int{0, 3, 64} {
		c := sample.Composites()[0]
		c.Buffer = buffer
		for z := range 6 {
			for x := range 1 << z {
				p := sample.Place(z, x, (5*x+1)%(1<<z))
				b, status := Tile(files, c, p)
				again, same := Tile(other, c, p)
				if !bytes.Equal(b, again) || status != same {
					t.Fatal(p, status, same)
				}
				if status != api.StOK {
					continue
				}
				met++
				l, e := tile.Get(b)
				put, _ := tile.Put(l)
				if e != api.OK || !bytes.Equal(put, b) {
					t.Fatal(p, e)
				}
				for _, y := range l {
					n := y.Extent * buffer / 64
					for _, f := range y.Features {
						for _, q := range slices.Concat(f.Paths...) {
							if q.X < -n || q.Y < -n || q.X > y.Extent+n || q.Y > y.Extent+n {
								t.Fatal(p, f)
							}
						}
					}
				}
			}
		}
	}
	if met < 50 {
		t.Error(met)
	}
}
