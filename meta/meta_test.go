package meta

import (
	"math/rand"
	"slices"
	"strings"
	"testing"

	"portolan/api"
)

func vec(id string, fields ...string) api.Vector {
	v := api.Vector{ID: id}
	for i := 0; i < len(fields); i += 2 {
		v.Fields = append(v.Fields, [2]string{fields[i], fields[i+1]})
	}
	return v
}

func same(a, b []api.Vector) bool {
	return slices.EqualFunc(a, b, func(v, w api.Vector) bool { return v.ID == w.ID && slices.Equal(v.Fields, w.Fields) })
}

func layer(name string, keys ...string) api.Layer {
	x := api.Layer{Name: name, Features: []api.Feature{{}}}
	for _, k := range keys {
		x.Features = append(x.Features, api.Feature{Attrs: []api.Attr{{Key: k}}})
	}
	return x
}

func TestP29_1Read(t *testing.T) {
	for s, want := range map[string]api.Info{
		"{}":                     {},
		` {"vector_layers":[]} `: {},
		`{"attribution":"x"}`:    {Credit: "x"},
		`{"attribution":""}`:     {},
		`{"vector_layers":[{"id":"a"},{"fields":{"k":"Number","j":""},"id":"","minzoom":0}],"name":1,"attribution":"é"}`: {Layers: []api.Vector{vec("a"), vec("", "k", "Number", "j", "")}, Credit: "é"},
		`{"vector_layers":[{"id":"a","fields":{}}]}`: {Layers: []api.Vector{vec("a")}},
	} {
		if x, e := Read([]byte(s)); !same(x.Layers, want.Layers) || x.Credit != want.Credit || e != api.OK {
			t.Error(s, x, e)
		}
	}
	for s, want := range map[string]api.Errno{
		"":                             api.ErrShort,
		"{":                            api.ErrShort,
		"x":                            api.ErrForm,
		"{\"a\":1e9999}":               api.ErrRange,
		strings.Repeat("[", 65):        api.ErrMany,
		"[]":                           api.ErrForm,
		"null":                         api.ErrForm,
		`"x"`:                          api.ErrForm,
		`{"vector_layers":{}}`:         api.ErrForm,
		`{"vector_layers":null}`:       api.ErrForm,
		`{"vector_layers":[1]}`:        api.ErrForm,
		`{"vector_layers":[["id"]]}`:   api.ErrForm,
		`{"vector_layers":[{}]}`:       api.ErrForm,
		`{"vector_layers":[{"id":1}]}`: api.ErrForm,
		`{"vector_layers":[{"id":"a"},{"id":"b"},{"id":"a"}]}`:    api.ErrForm,
		`{"vector_layers":[{"id":"a","fields":[]}]}`:              api.ErrForm,
		`{"vector_layers":[{"id":"a","fields":null}]}`:            api.ErrForm,
		`{"vector_layers":[{"id":"a","fields":{"k":1}}]}`:         api.ErrForm,
		`{"vector_layers":[{"id":"a","fields":{"j":"","k":{}}}]}`: api.ErrForm,
		`{"attribution":null}`:                                    api.ErrForm,
		`{"attribution":["x"]}`:                                   api.ErrForm,
	} {
		if x, e := Read([]byte(s)); len(x.Layers) > 0 || x.Credit != "" || e != want {
			t.Error(s, x, e)
		}
	}
	if _, e := Read(make([]byte, api.MaxData+1)); e != api.ErrLong {
		t.Error(e)
	}
}

func TestP29_2Has(t *testing.T) {
	x := api.Info{Layers: []api.Vector{vec("a", "k", "Number"), vec("b"), vec("b", "k", "Number")}}
	for i, c := range []struct {
		layer, key string
		in, field  bool
	}{
		{"a", "k", true, true}, {"a", "j", true, false}, {"b", "k", true, false}, {"c", "k", false, false}, {"", "", false, false},
	} {
		if in, field := Has(x, c.layer, c.key); in != c.in || field != c.field {
			t.Error(i, in, field)
		}
	}
}

func TestP29_2Fits(t *testing.T) {
	x := api.Info{Layers: []api.Vector{vec("a", "k", "Number", "j", "String"), vec("b"), vec("b", "k", "Number"), vec("a", "i", "")}}
	for i, c := range []struct {
		l  []api.Layer
		ok bool
	}{
		{nil, true},
		{[]api.Layer{layer("a"), layer("b")}, true},
		{[]api.Layer{layer("a", "k", "j", "k")}, true},
		{[]api.Layer{layer("a", "k", "i")}, false},
		{[]api.Layer{layer("b", "k")}, false},
		{[]api.Layer{layer("a"), layer("c")}, false},
		{[]api.Layer{{Name: "c"}}, false},
		{[]api.Layer{{Name: "a"}}, true},
	} {
		if Fits(x, c.l) != c.ok {
			t.Error(i)
		}
	}
	if Fits(api.Info{}, []api.Layer{layer("")}) {
		t.Error("no layers")
	}
}

func TestP29_3Field(t *testing.T) {
	l := [][2]string{{"a", "Number"}, {"b", "Boolean"}, {"a", "x"}}
	for i, c := range []struct {
		name, kind string
		want       [][2]string
	}{
		{"c", "Number", [][2]string{{"a", "Number"}, {"b", "Boolean"}, {"a", "x"}, {"c", "Number"}}},
		{"a", "Number", l},
		{"a", "x", [][2]string{{"a", "String"}, {"b", "Boolean"}, {"a", "x"}}},
		{"b", "Number", [][2]string{{"a", "Number"}, {"b", "String"}, {"a", "x"}}},
	} {
		before := slices.Clone(l)
		if got := Field(l, c.name, c.kind); !slices.Equal(got, c.want) || !slices.Equal(l, before) {
			t.Error(i, got)
		}
	}
	if got := Field(nil, "a", ""); !slices.Equal(got, [][2]string{{"a", ""}}) {
		t.Error(got)
	}
	room := make([][2]string, 1, 9)
	Field(room, "a", "b")
	if room[:2][1][0] != "" {
		t.Error("the argument's room was written to")
	}
}

func TestP29_3Merge(t *testing.T) {
	for i, c := range []struct{ a, b, want []api.Vector }{
		{nil, nil, nil},
		{nil, []api.Vector{vec("a", "k", "x"), vec("b")}, []api.Vector{vec("a", "k", "x"), vec("b")}},
		{[]api.Vector{vec("a", "k", "x")}, nil, []api.Vector{vec("a", "k", "x")}},
		{[]api.Vector{vec("a", "k", "Number", "j", "String"), vec("b")}, []api.Vector{vec("c", "k", "x"), vec("a", "i", "x", "k", "Boolean", "j", "String")},
			[]api.Vector{vec("a", "k", "String", "j", "String", "i", "x"), vec("b"), vec("c", "k", "x")}},
		{nil, []api.Vector{vec("a", "k", "x"), vec("a", "k", "y", "k", "z")}, []api.Vector{vec("a", "k", "String")}},
		{[]api.Vector{vec("a", "k", "x", "k", "y"), vec("a")}, []api.Vector{vec("a", "k", "x")}, []api.Vector{vec("a", "k", "x", "k", "y"), vec("a")}},
	} {
		got := Merge(c.a, c.b)
		if !same(got, c.want) {
			t.Error(i, got)
		}
		if len(got) > 0 && len(got[0].Fields) > 0 {
			got[0].Fields[0][0] = "changed"
			if len(c.a) > 0 && c.a[0].Fields[0][0] == "changed" || len(c.a) == 0 && c.b[0].Fields[0][0] == "changed" {
				t.Error(i, "shared")
			}
		}
	}
}

// TestP29_3MergeByField holds Merge against what the chapter states step by step.
func TestP29_3MergeByField(t *testing.T) {
	rnd := rand.New(rand.NewSource(29))
	list := func() []api.Vector {
		var l []api.Vector
		for range rnd.Intn(4) {
			v := vec(string(rune('a' + rnd.Intn(3))))
			for range rnd.Intn(4) {
				v.Fields = append(v.Fields, [2]string{string(rune('k' + rnd.Intn(3))), string(rune('x' + rnd.Intn(2)))})
			}
			l = append(l, v)
		}
		return l
	}
	for range 5000 {
		a, b := list(), list()
		want := slices.Clone(a)
		for _, v := range b {
			n := slices.IndexFunc(want, func(w api.Vector) bool { return w.ID == v.ID })
			if n < 0 {
				n = len(want)
				want = append(want, vec(v.ID))
			}
			for _, f := range v.Fields {
				want[n].Fields = Field(want[n].Fields, f[0], f[1])
			}
		}
		if got := Merge(a, b); !same(got, want) {
			t.Fatal(a, b, got)
		}
	}
}

func TestP29_4FittingLayersFitTheMerged(t *testing.T) {
	rnd := rand.New(rand.NewSource(30))
	names := "abcd"
	list := func() []api.Vector {
		var l []api.Vector
		for _, n := range rnd.Perm(4)[:rnd.Intn(5)] {
			v := vec(names[n : n+1])
			for _, k := range rnd.Perm(3)[:rnd.Intn(4)] {
				v.Fields = append(v.Fields, [2]string{names[k : k+1], "x"})
			}
			l = append(l, v)
		}
		return l
	}
	fit := 0
	for range 5000 {
		a, b := list(), list()
		k := rnd.Intn(3)
		l := []api.Layer{layer("a", names[k:k+1]), layer("b")}
		if Fits(api.Info{Layers: a}, l) || Fits(api.Info{Layers: b}, l) {
			fit++
			if !Fits(api.Info{Layers: Merge(a, b)}, l) {
				t.Fatal(a, b, l)
			}
		}
	}
	if fit < 100 {
		t.Error(fit)
	}
}
