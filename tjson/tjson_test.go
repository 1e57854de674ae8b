package tjson

import (
	stdjson "encoding/json"
	"slices"
	"strings"
	"testing"

	"portolan/api"
	"portolan/comp"
	"portolan/json"
	"portolan/meta"
	"portolan/pack"
	"portolan/sample"
	"portolan/tile"
)

func vec(id string, fields ...string) api.Vector {
	v := api.Vector{ID: id}
	for i := 0; i < len(fields); i += 2 {
		v.Fields = append(v.Fields, [2]string{fields[i], fields[i+1]})
	}
	return v
}

func same(a, b []api.Vector) bool {
	return slices.EqualFunc(a, b, func(v, w api.Vector) bool { return v.ID == w.ID && slices.Equal(v.Fields, w.Fields) })
}

func TestP32_1Rename(t *testing.T) {
	l := []api.Vector{vec("a", "k", "x"), vec("b"), vec("c")}
	for i, c := range []struct {
		pairs [][2]string
		want  []api.Vector
	}{
		{nil, l},
		{[][2]string{{"c", "x"}, {"a", "y"}, {"a", "z"}, {"d", "w"}}, []api.Vector{vec("y", "k", "x"), vec("x")}},
		{[][2]string{{"a", "b"}, {"b", "b"}}, []api.Vector{vec("b", "k", "x"), vec("b")}},
		{[][2]string{{"d", "a"}}, nil},
	} {
		got := Rename(l, c.pairs)
		if !same(got, c.want) {
			t.Error(i, got)
		}
		if len(got) > 0 && len(got[0].Fields) > 0 {
			got[0].Fields[0][0] = "changed"
			if l[0].Fields[0][0] != "k" {
				t.Fatal(i, "shared")
			}
		}
	}
}

func TestP32_1Layers(t *testing.T) {
	files := sample.Files()
	all := sample.Composites()
	texts := all[0]
	texts.Sources = slices.Clone(all[0].Sources)
	texts.Sources[0].Join.Texts = true
	twice := sample.One("x", "lands")
	twice.Sources[0].Layers = [][2]string{{"land", "x"}, {"road", "x"}}
	for i, c := range []struct {
		c    api.Composite
		want []api.Vector
	}{
		{all[0], []api.Vector{vec("road", "id", "Number", "name", "String", "pop", "Number", "kind", "String"), vec("area", "kind", "Boolean")}},
		{texts, []api.Vector{vec("road", "id", "Number", "name", "String", "pop", "String", "kind", "String"), vec("area", "kind", "Boolean")}},
		{all[1], []api.Vector{vec("area", "kind", "Boolean"), vec("road", "name", "Number")}},
		{twice, []api.Vector{vec("x", "kind", "Boolean", "name", "Number")}},
		{sample.One("x", "undescribed"), nil},
		{sample.One("x", "garbage"), []api.Vector{vec("road", "id", "Number", "name", "String")}},
	} {
		if l, status := Layers(files, c.c); !same(l, c.want) || status != api.StOK {
			t.Error(i, l, status)
		}
	}
}

// changed returns a composite of the roads whose source was changed.
func changed(change func(s *api.Source)) api.Composite {
	c := sample.Composites()[0]
	c.Sources = slices.Clone(c.Sources)
	change(&c.Sources[0])
	return c
}

func TestP32_1Broken(t *testing.T) {
	files := append(sample.Files(),
		api.File{Name: "odd", Data: sample.Archive(false, 0, 0, "[]", func(api.Place) []byte { return []byte("x") })},
		api.File{Name: "unpacked", Data: spoilt()})
	for i, c := range []struct {
		c           api.Composite
		low, layers int
	}{
		{api.Composite{ID: "x"}, api.StBroken, api.StBroken},
		{sample.One("x", "bad"), api.StBroken, api.StBroken},
		{sample.One("x", "missing"), api.StBroken, api.StBroken},
		{sample.One("x", "odd"), api.StOK, api.StBroken},
		{sample.One("x", "unpacked"), api.StOK, api.StBroken},
		{changed(func(s *api.Source) { s.Csv = "missing" }), api.StOK, api.StBroken},
		{changed(func(s *api.Source) { s.Join.Key = "none" }), api.StOK, api.StBroken},
		{changed(func(s *api.Source) {}), api.StOK, api.StOK},
	} {
		if low, high, status := Bounds(files, c.c); status != c.low || status != api.StOK && (low != api.Pt{} || high != api.Pt{}) {
			t.Error(i, low, high, status)
		}
		if l, status := Layers(files, c.c); status != c.layers || status != api.StOK && len(l) > 0 {
			t.Error(i, l, status)
		}
		if s, status := Doc(files, c.c); status != c.layers || status != api.StOK && s != "" {
			t.Error(i, s, status)
		}
	}
}

// spoilt returns an archive whose metadata cannot be unpacked.
func spoilt() []byte {
	b := sample.Archive(true, 0, 0, "{}", func(api.Place) []byte { return []byte("x") })
	at := int(b[24]) + int(b[25])<<8
	b[at] = 0
	return b
}

func TestP32_2Bounds(t *testing.T) {
	all := sample.Composites()
	low, high, status := Bounds(sample.Files(), all[0])
	if low != (api.Pt{X: -1000000001, Y: -500000000}) || high != (api.Pt{X: 1234567890, Y: 600000002}) || status != api.StOK {
		t.Error(low, high, status)
	}
	low, high, status = Bounds(sample.Files(), all[1])
	if low != (api.Pt{X: -1000000001, Y: -500000000}) || high != (api.Pt{X: 1234567890, Y: 600000001}) || status != api.StOK {
		t.Error(low, high, status)
	}
}

// boxed returns an archive with these corners.
func boxed(low, high api.Pt) []byte {
	s := sample.Spec(false, 0, 0, "{}")
	s.Min, s.Max = low, high
	b, _ := pack.Build([]api.Item{{Data: []byte("x")}}, s)
	return b
}

func TestP32_2BoundsOfSome(t *testing.T) {
	pt := func(x, y int) api.Pt { return api.Pt{X: x, Y: y} }
	files := []api.File{
		{Name: "a", Data: boxed(pt(10, 20), pt(30, 40))},
		{Name: "b", Data: boxed(pt(5, 25), pt(35, 33))},
		{Name: "c", Data: boxed(pt(-40, -30), pt(-20, -10))},
	}
	for i, c := range []struct {
		names     string
		low, high api.Pt
	}{
		{"a", pt(10, 20), pt(30, 40)},
		{"b", pt(5, 25), pt(35, 33)},
		{"c", pt(-40, -30), pt(-20, -10)},
		{"ab", pt(5, 20), pt(35, 40)},
		{"ba", pt(5, 20), pt(35, 40)},
		{"bca", pt(-40, -30), pt(35, 40)},
	} {
		x := sample.One("x", c.names[:1])
		for _, name := range c.names[1:] {
			x.Sources = append(x.Sources, api.Source{Archive: string(name)})
		}
		if low, high, status := Bounds(files, x); low != c.low || high != c.high || status != api.StOK {
			t.Error(i, low, high, status)
		}
	}
}

func TestP32_2Credit(t *testing.T) {
	for want, l := range map[string][]string{
		"a, b":    {"a", "", "b", "a"},
		"":        {"", ""},
		"x":       {"x"},
		"b, a, c": {"b", "a", "b", "c"},
	} {
		if Credit(l) != want {
			t.Error(want, Credit(l))
		}
	}
	if Credit(nil) != "" {
		t.Error("nothing")
	}
}

func TestP32_3Doc(t *testing.T) {
	s, status := Doc(sample.Files(), sample.Composites()[0])
	want := `{"tilejson":"3.0.0","tiles":["/all/{z}/{x}/{y}.mvt"],"minzoom":0,"maxzoom":5,` +
		`"bounds":[-100.0000001,-50,123.456789,60.0000002],"center":[0.0000015,-2.5,5],` +
		`"vector_layers":[{"id":"road","fields":{"id":"Number","name":"String","pop":"Number","kind":"String"}},{"id":"area","fields":{"kind":"Boolean"}}],` +
		`"attribution":"A, B"}`
	if s != want || status != api.StOK {
		t.Error(s, status)
	}
	if s, _ := Doc(sample.Files(), sample.Composites()[1]); !strings.Contains(s, `"minzoom":1,"maxzoom":3,`) {
		t.Error(s)
	}
	s, _ = Doc(sample.Files(), sample.One("u", "undescribed"))
	if strings.Contains(s, "attribution") || !strings.HasSuffix(s, `"vector_layers":[]}`) {
		t.Error(s)
	}
}

func TestP32_3Center(t *testing.T) {
	for high, want := range map[int]string{30: ",9]", 9: ",9]", 5: ",5]", 0: ",0]"} {
		c := sample.One("x", "roads")
		c.MaxZoom = high
		if s, _ := Doc(sample.Files(), c); !strings.Contains(s, `"center":[0.0000015,-2.5`+want) {
			t.Error(high, s)
		}
	}
	deep := api.File{Name: "deep", Data: sample.Archive(false, 10, 10, "{}", func(p api.Place) []byte {
		if p.X+p.Y > 0 {
			return nil
		}
		return []byte("x")
	})}
	for high, want := range map[int]string{20: ",10]", 8: ",8]"} {
		c := sample.One("x", "deep")
		c.MaxZoom = high
		if s, status := Doc([]api.File{deep}, c); !strings.Contains(s, want) {
			t.Error(high, s, status)
		}
	}
}

func TestP32_3Statuses(t *testing.T) {
	files := sample.Files()
	for i, c := range []api.Composite{
		changed(func(s *api.Source) { s.Archive = "" }),
		changed(func(s *api.Source) { s.Layers = [][2]string{{"road", "\xff"}} }),
		{ID: "A", Sources: sample.Composites()[0].Sources},
		{ID: "a", Sources: sample.Composites()[0].Sources, Buffer: 65},
		{ID: "a"},
	} {
		if s, status := Doc(files, c); s != "" || status != api.StBroken {
			t.Error(i, s, status)
		}
	}
	meta := func(n int) []byte {
		return sample.Archive(true, 0, 0, `{"attribution":"`+strings.Repeat("a", n)+`"}`, func(api.Place) []byte { return []byte("x") })
	}
	short, _ := Doc([]api.File{{Name: "a", Data: meta(1)}}, sample.One("x", "a"))
	room := api.MaxData - len(short) + 1
	if s, status := Doc([]api.File{{Name: "a", Data: meta(room)}}, sample.One("x", "a")); len(s) != api.MaxData || status != api.StOK {
		t.Error(len(s), status)
	}
	if s, status := Doc([]api.File{{Name: "a", Data: meta(room + 1)}}, sample.One("x", "a")); s != "" || status != api.StBig {
		t.Error(len(s), status)
	}
}

func TestP32_4Consequences(t *testing.T) {
	files := sample.Files()
	for _, c := range sample.Composites()[:2] {
		s, _ := Doc(files, c)
		x, _, e := json.Parse(s)
		if json.Text(x) != s || e != api.OK || !stdjson.Valid([]byte(s)) {
			t.Fatal(s, e)
		}
		layers, _ := Layers(files, c)
		met := 0
		for z := range 4 {
			for n := range 1 << (2 * z) {
				b, status := comp.Tile(files, c, sample.Place(z, n>>z, n%(1<<z)))
				if status != api.StOK {
					continue
				}
				met++
				l, _ := tile.Get(b)
				if !meta.Fits(api.Info{Layers: layers}, l) {
					t.Fatal(z, n, l)
				}
			}
		}
		if met < 10 {
			t.Error(met)
		}
	}
}
