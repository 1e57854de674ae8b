package conf

import (
	"slices"
	"strings"
	"testing"

	"portolan/api"
	"portolan/json"
)

func sample() []api.Composite {
	return []api.Composite{
		{ID: "a", Sources: []api.Source{{Archive: "x"}}, Limit: 500},
		{ID: "b_-9", Buffer: 64, MaxZoom: 30, Limit: api.MaxData, Sources: []api.Source{
			{Archive: "y", Layers: [][2]string{{"p", "q"}, {"", "q"}}, Csv: "t", Join: api.Join{Key: "k", Attr: "é", Only: []string{"m", "n"}, Not: []string{"n"}, Texts: true, Drop: true}},
			{Archive: "z", Csv: "t"},
		}},
	}
}

func with(change func(l []api.Composite)) []api.Composite {
	l := sample()
	change(l)
	return l
}

func TestP30_1Name(t *testing.T) {
	for s, want := range map[string]bool{
		"": false, "a": true, "az09_-": true, "A": false, "a.b": false, "a/b": false, "é": false, "a b": false, "`": false, "{": false, "/": false, ":": false,
		strings.Repeat("a", 64): true, strings.Repeat("a", 65): false,
	} {
		if Name(s) != want {
			t.Error(s)
		}
	}
}

var changes = []struct {
	change func(l []api.Composite)
	ok     bool
	same   bool
}{
	{func(l []api.Composite) {}, true, true},
	{func(l []api.Composite) { l[0].ID = "A" }, false, false},
	{func(l []api.Composite) { l[0].ID = "c" }, true, false},
	{func(l []api.Composite) { l[1].ID = "a" }, false, false},
	{func(l []api.Composite) { l[0].Sources = nil }, false, false},
	{func(l []api.Composite) { l[0].Sources = slices.Repeat(l[0].Sources, 16) }, true, false},
	{func(l []api.Composite) { l[0].Sources = slices.Repeat(l[0].Sources, 17) }, false, false},
	{func(l []api.Composite) { l[0].Buffer = 64 }, true, false},
	{func(l []api.Composite) { l[0].Buffer = 65 }, false, false},
	{func(l []api.Composite) { l[0].Buffer = -1 }, false, false},
	{func(l []api.Composite) { l[0].MaxZoom = 30 }, true, false},
	{func(l []api.Composite) { l[0].MaxZoom = 31 }, false, false},
	{func(l []api.Composite) { l[0].MaxZoom = -1 }, false, false},
	{func(l []api.Composite) { l[0].Limit = 0 }, true, false},
	{func(l []api.Composite) { l[0].Limit = api.MaxData + 1 }, false, false},
	{func(l []api.Composite) { l[0].Limit = -1 }, false, false},
	{func(l []api.Composite) { l[0].Sources[0].Archive = "" }, false, false},
	{func(l []api.Composite) { l[0].Sources[0].Archive = "\xff" }, false, false},
	{func(l []api.Composite) { l[1].Sources[0].Csv = "\xff" }, false, false},
	{func(l []api.Composite) { l[1].Sources[0].Csv = "" }, false, false},
	{func(l []api.Composite) { l[1].Sources[1].Csv = "" }, true, false},
	{func(l []api.Composite) { l[1].Sources[0].Layers[1][0] = "p" }, false, false},
	{func(l []api.Composite) { l[1].Sources[0].Layers[1][1] = "p" }, true, false},
	{func(l []api.Composite) { l[1].Sources[0].Layers[0][0] = "\xff" }, false, false},
	{func(l []api.Composite) { l[1].Sources[0].Layers[0][1] = "\xff" }, false, false},
	{func(l []api.Composite) { l[1].Sources[0].Join.Key = "\xff" }, false, false},
	{func(l []api.Composite) { l[1].Sources[0].Join.Attr = "\xff" }, false, false},
	{func(l []api.Composite) { l[1].Sources[0].Join.Only[1] = "\xff" }, false, false},
	{func(l []api.Composite) { l[1].Sources[0].Join.Not[0] = "\xff" }, false, false},
	{func(l []api.Composite) { l[1].Sources[0].Join.Texts = false }, true, false},
	{func(l []api.Composite) { l[1].Sources[0].Join.Drop = false }, true, false},
	{func(l []api.Composite) { l[1].Sources[0].Join.Key = "" }, true, false},
	{func(l []api.Composite) { l[1].Sources[0].Join.Attr = "" }, true, false},
	{func(l []api.Composite) { l[1].Sources[0].Join.Only = nil }, true, false},
	{func(l []api.Composite) { l[1].Sources[0].Join.Not = nil }, true, false},
	{func(l []api.Composite) { l[0].Sources[0].Join.Key = "k" }, false, false},
	{func(l []api.Composite) { l[0].Sources[0].Join.Attr = "k" }, false, false},
	{func(l []api.Composite) { l[0].Sources[0].Join.Only = []string{""} }, false, false},
	{func(l []api.Composite) { l[0].Sources[0].Join.Not = []string{"a"} }, false, false},
	{func(l []api.Composite) { l[0].Sources[0].Join.Texts = true }, false, false},
	{func(l []api.Composite) { l[0].Sources[0].Join.Drop = true }, false, false},
	{func(l []api.Composite) { l[0].Sources[0].Join.Only = []string{} }, true, true},
	{func(l []api.Composite) { l[0].Sources[0].Layers = [][2]string{} }, true, true},
	{func(l []api.Composite) { l[0].Sources[0].Layers = [][2]string{{"a", "b"}} }, true, false},
}

func TestP30_1Right(t *testing.T) {
	for i, c := range changes {
		l := with(c.change)
		if Right(l) != c.ok || (Text(l) != "") != c.ok {
			t.Error(i, Text(l))
		}
	}
	if !Right(nil) {
		t.Error("none")
	}
}

func TestP30_1Same(t *testing.T) {
	for i, c := range changes {
		l := with(c.change)
		if Same(l, sample()) != c.same || Same(sample(), l) != c.same {
			t.Error(i)
		}
	}
	if Same(sample(), sample()[:1]) || !Same(nil, []api.Composite{}) {
		t.Error("lists")
	}
}

func TestP30_1Find(t *testing.T) {
	l := append(sample(), api.Composite{ID: "a", Limit: 9})
	if c, ok := Find(l, "a"); !Same([]api.Composite{c}, l[:1]) || !ok {
		t.Error(c, ok)
	}
	if c, ok := Find(l, "c"); !Same([]api.Composite{c}, []api.Composite{{}}) || ok {
		t.Error(c, ok)
	}
	c, _ := Find(l, "b_-9")
	c.Sources[0].Layers[0][0], c.Sources[0].Join.Only[0], c.Sources[0].Join.Not[0] = "x", "x", "x"
	c.Sources[0].Archive = "x"
	if !Same(l[:2], sample()) {
		t.Error("shared")
	}
}

const wanted = `[{"id":"a","sources":[{"archive":"x"}],"buffer":0,"maxzoom":0,"limit":500},` +
	`{"id":"b_-9","sources":[{"archive":"y","layers":[["p","q"],["","q"]],"csv":"t","key":"k","attr":"é","only":["m","n"],"not":["n"],"texts":true,"drop":true},` +
	`{"archive":"z","csv":"t","key":"","attr":"","only":[],"not":[],"texts":false,"drop":false}],"buffer":64,"maxzoom":30,"limit":1048576}]`

func TestP30_2Text(t *testing.T) {
	if s := Text(sample()); s != wanted {
		t.Error(s)
	}
	if Text(nil) != "[]" {
		t.Error(Text(nil))
	}
}

func TestP30_3Parse(t *testing.T) {
	if l, e := Parse("[]"); len(l) != 0 || e != api.OK {
		t.Error(l, e)
	}
	if l, e := Parse(wanted); !Same(l, sample()) || e != api.OK {
		t.Error(l, e)
	}
	turned := ` [ {"limit":5e2, "maxzoom":0.0e3, "buffer":0, "sources":[ {"layers":[], "archive":"\u0078"} ], "id":"a"} ] `
	if l, e := Parse(turned); !Same(l, sample()[:1]) || e != api.OK {
		t.Error(l, e)
	}
}

func TestP30_3Keys(t *testing.T) {
	good := `[{"id":"a","sources":[{"archive":"x","layers":[["a","b"]],"csv":"c","key":"k","attr":"t","only":["o"],"not":[],"texts":true,"drop":false}],"buffer":1,"maxzoom":2,"limit":3}]`
	if _, e := Parse(good); e != api.OK {
		t.Fatal(e)
	}
	for _, c := range []struct {
		old, new string
		ok       bool
	}{
		{`"id":"a",`, ``, false},
		{`"sources":`, `"other":`, false},
		{`"buffer":1,`, ``, false},
		{`"maxzoom":2,`, ``, false},
		{`,"limit":3`, ``, false},
		{`"archive":"x",`, ``, false},
		{`"layers":[["a","b"]],`, ``, true},
		{`"key":"k",`, ``, true},
		{`"attr":"t",`, ``, true},
		{`"only":["o"],`, ``, true},
		{`"not":[],`, ``, true},
		{`"texts":true,`, ``, true},
		{`,"drop":false`, ``, true},
		{`"csv":"c",`, ``, false},
		{`"csv":"c","key":"k","attr":"t","only":["o"],"not":[],"texts":true,"drop":false`, `"not":[]`, true},
		{`"limit":3`, `"limit":3,"more":1`, false},
		{`"drop":false`, `"drop":false,"Drop":true`, false},
		{`"id":"a"`, `"id":1`, false},
		{`"id":"a"`, `"id":"A"`, false},
		{`"id":"a"`, `"id":"a","id":"a"`, false},
		{`"buffer":1`, `"buffer":"1"`, false},
		{`"buffer":1`, `"buffer":null`, false},
		{`"buffer":1`, `"buffer":1.5`, false},
		{`"buffer":1`, `"buffer":65`, false},
		{`"buffer":1`, `"buffer":1e30`, false},
		{`"maxzoom":2`, `"maxzoom":31`, false},
		{`"maxzoom":2`, `"maxzoom":[]`, false},
		{`"limit":3`, `"limit":-1`, false},
		{`"limit":3`, `"limit":{}`, false},
		{`"archive":"x"`, `"archive":""`, false},
		{`"archive":"x"`, `"archive":null`, false},
		{`[["a","b"]]`, `[["a"]]`, false},
		{`[["a","b"]]`, `[["a","b","c"]]`, false},
		{`[["a","b"]]`, `[["a",1]]`, false},
		{`[["a","b"]]`, `["a","b"]`, false},
		{`[["a","b"]]`, `{}`, false},
		{`[["a","b"]]`, `[["a","b"],["a","c"]]`, false},
		{`"csv":"c"`, `"csv":1`, false},
		{`"key":"k"`, `"key":null`, false},
		{`"attr":"t"`, `"attr":[]`, false},
		{`["o"]`, `"o"`, false},
		{`["o"]`, `[1]`, false},
		{`"not":[]`, `"not":null`, false},
		{`"texts":true`, `"texts":1`, false},
		{`"drop":false`, `"drop":null`, false},
		{`[{"archive"`, `[1,{"archive"`, false},
		{`[{"id"`, `[[],{"id"`, false},
	} {
		s := strings.Replace(good, c.old, c.new, 1)
		if l, e := Parse(s); s == good || (e == api.OK) != c.ok || !c.ok && (e != api.ErrForm || len(l) > 0) {
			t.Error(c, l, e)
		}
	}
	for s, want := range map[string]api.Errno{
		"": api.ErrShort, "[": api.ErrShort, "{}": api.ErrForm, "null": api.ErrForm, "[1]": api.ErrForm, `[{}]`: api.ErrForm, "x": api.ErrForm,
		strings.Repeat("[", 65): api.ErrMany, "[1e9999]": api.ErrRange, strings.Repeat(" ", api.MaxData+1): api.ErrLong,
		`[{"id":"a","sources":[],"buffer":1,"maxzoom":2,"limit":3}]`: api.ErrForm,
		`[{"id":"a","sources":{},"buffer":1,"maxzoom":2,"limit":3}]`: api.ErrForm,
	} {
		if l, e := Parse(s); len(l) > 0 || e != want {
			t.Errorf("%.20s: %d", s, e)
		}
	}
}

func TestP30_4RoundTrip(t *testing.T) {
	for i, c := range changes {
		l := with(c.change)
		if !c.ok {
			continue
		}
		s := Text(l)
		x, _, e := json.Parse(s)
		if json.Text(x) != s || e != api.OK {
			t.Error(i, s)
		}
		if m, e := Parse(s); !Same(l, m) || e != api.OK {
			t.Error(i, m, e)
		}
	}
}
