package audit

import (
	"slices"
	"strconv"
	"strings"
	"testing"

	"portolan/api"
	"portolan/gzip"
	"portolan/req"
	"portolan/sample"
	"portolan/serve"
	"portolan/wire"
)

func point(x, y int) api.Feature {
	return api.Feature{Type: api.GeoPoint, Paths: [][]api.Pt{sample.Points(x, y)}}
}

func one(extent int, f ...api.Feature) []byte {
	return sample.Tile(api.Layer{Name: "a", Extent: extent, Features: f})
}

func TestP38_1Tile(t *testing.T) {
	good := one(32, point(1, 1))
	longer := append(slices.Clone(good), wire.Put([]api.Field{{Num: 9}})...)
	for i, c := range []struct {
		b             []byte
		buffer, limit int
		want          string
	}{
		{good, 0, len(good), ""},
		{nil, 0, 0, "empty"},
		{nil, 0, -1, "limit"},
		{good[:5], 0, 0, "bytes"},
		{[]byte{0x80}, 0, -1, "bytes"},
		{longer, 0, 0, "put"},
		{good, 0, len(good) - 1, "limit"},
		{one(32), 0, 99, "empty"},
		{sample.Tile(api.Layer{Name: "a", Extent: 32, Features: []api.Feature{point(99, 0)}}, api.Layer{Name: "b", Extent: 1}), 0, 99, "empty"},
		{one(32, point(0, 32)), 0, 99, ""},
		{one(32, point(0, 33)), 0, 99, "window"},
		{one(32, point(33, 0)), 0, 99, "window"},
		{one(32, point(-1, 0)), 0, 99, "window"},
		{one(32, point(0, -1)), 1, 99, "window"},
		{one(64, point(0, -1)), 0, 99, "window"},
		{one(64, point(0, -1)), 1, 99, ""},
		{one(32, point(0, -1)), 2, 99, ""},
		{one(32, point(33, 0)), 3, 99, ""},
		{one(32, point(34, 0)), 3, 99, "window"},
		{one(32, point(64, -32)), 64, 99, ""},
		{one(32, point(65, -32)), 64, 99, "window"},
		{one(32, point(65, -32)), 1 << 62, 99, "window"},
		{one(32, point(64, -32)), 65, 99, ""},
		{one(32, point(0, -1)), -1 << 63, 99, "window"},
		{one(32, point(0, 32)), -5, 99, ""},
		{one(32, point(1, 1), point(40, 1)), 0, 99, "window"},
	} {
		if got := Tile(c.b, c.buffer, c.limit); got != c.want {
			t.Error(i, got)
		}
	}
}

const doc = `{"tilejson":"3.0.0","minzoom":0,"maxzoom":30,"bounds":[-1,-2.5,-1,3],"vector_layers":[{"id":"a","fields":{"k":"Number"}}]}`

func TestP38_2Doc(t *testing.T) {
	if got := Doc([]byte(doc)); got != "" {
		t.Fatal(got)
	}
	for _, c := range []struct{ old, new, want string }{
		{"}]}", "}]", "json"},
		{doc, "", "json"},
		{doc, "[]", "json"},
		{doc, `"x"`, "json"},
		{doc, " " + doc, "json"},
		{`0,"max`, `0, "max`, "json"},
		{`:30`, `:30.0`, "json"},
		{`"3.0.0"`, `"3.0"`, "version"},
		{`"3.0.0"`, `3`, "version"},
		{`"tilejson"`, `"Tilejson"`, "version"},
		{`"minzoom":0`, `"minzoom":31`, "zooms"},
		{`"minzoom":0`, `"minzoom":-1`, "zooms"},
		{`"minzoom":0`, `"minzoom":0.5`, "zooms"},
		{`"minzoom":0`, `"minzoom":"0"`, "zooms"},
		{`"minzoom":0`, `"minzoom":null`, "zooms"},
		{`"minzoom":0,`, ``, "zooms"},
		{`"maxzoom":30,`, ``, "zooms"},
		{`"maxzoom":30`, `"maxzoom":31`, "zooms"},
		{`"minzoom":0`, `"minzoom":30`, ""},
		{`[-1,-2.5,-1,3]`, `[-1,-2.5,-1]`, "bounds"},
		{`[-1,-2.5,-1,3]`, `[-1,-2.5,-1,3,4]`, "bounds"},
		{`[-1,-2.5,-1,3]`, `[-1,-2.5,-1,"3"]`, "bounds"},
		{`[-1,-2.5,-1,3]`, `[-1,-2.5,-1.5,3]`, "bounds"},
		{`[-1,-2.5,-1,3]`, `[-1,-2.5,-1,-2.6]`, "bounds"},
		{`[-1,-2.5,-1,3]`, `[-1,-2.5,-1,-2.5]`, ""},
		{`[-1,-2.5,-1,3]`, `null`, "bounds"},
		{`"bounds":[-1,-2.5,-1,3],`, ``, "bounds"},
		{`"vector_layers"`, `"layers"`, "layers"},
		{`"id":"a"`, `"id":1`, "layers"},
		{`"k":"Number"`, `"k":1`, "layers"},
		{`]}`, `],"attribution":1}`, "layers"},
		{`]}`, `],"attribution":"x"}`, ""},
	} {
		s := strings.Replace(doc, c.old, c.new, 1)
		if got := Doc([]byte(s)); got != c.want || s == doc {
			t.Error(c, got)
		}
	}
}

func TestP38_3Head(t *testing.T) {
	x := api.Resp{Heads: [][2]string{{"A", "1"}, {"B", ""}, {"A", "2"}}}
	for name, want := range map[string]string{"A": "1", "B": ""} {
		if s, ok := Head(x, name); s != want || !ok {
			t.Error(name, s, ok)
		}
	}
	for _, name := range []string{"a", "C", ""} {
		if s, ok := Head(x, name); s != "" || ok {
			t.Error(name, s, ok)
		}
	}
}

// answered returns a response of this status to a request, whose headers were changed.
func answered(r api.Req, body []byte, change func(x *api.Resp)) api.Resp {
	x := serve.Answer(r, body, "k", api.StOK)
	change(&x)
	return x
}

func set(name, value string) func(x *api.Resp) {
	return func(x *api.Resp) {
		for i := range x.Heads {
			if x.Heads[i][0] == name {
				x.Heads[i][1] = value
			}
		}
	}
}

func without(name string) func(x *api.Resp) {
	return func(x *api.Resp) {
		x.Heads = slices.DeleteFunc(x.Heads, func(h [2]string) bool { return h[0] == name })
	}
}

func TestP38_3Response(t *testing.T) {
	b := one(32, point(1, 1))
	tag, packed := serve.Tag(b, false), serve.Tag(b, true)
	get, head := api.Req{Method: "GET"}, api.Req{Method: "HEAD"}
	zipped, zippedHead := api.Req{Method: "GET", Gzip: true}, api.Req{Method: "HEAD", Gzip: true}
	knows := api.Req{Method: "GET", Tags: []string{"x", tag}}
	keep := func(x *api.Resp) {}
	body := func(s string) func(x *api.Resp) {
		return func(x *api.Resp) {
			x.Body = []byte(s)
			set("Content-Length", strconv.Itoa(len(s)))(x)
		}
	}
	both := func(f, g func(x *api.Resp)) func(x *api.Resp) { return func(x *api.Resp) { f(x); g(x) } }
	status := func(n int) func(x *api.Resp) { return func(x *api.Resp) { x.Status = n } }
	other, _ := gzip.Wrap([]byte("other"))
	for i, c := range []struct {
		r      api.Req
		asked  api.Req
		change func(x *api.Resp)
		want   string
	}{
		{get, get, keep, ""},
		{head, head, keep, ""},
		{zipped, zipped, keep, ""},
		{zippedHead, zippedHead, keep, ""},
		{knows, knows, keep, ""},
		{get, get, status(201), "status"},
		{get, get, status(0), "status"},
		{get, get, status(404), "body"},
		{get, get, status(304), "body"},
		{head, get, keep, "body"},
		{get, get, both(status(404), body("x")), "body"},
		{get, get, both(status(404), body("")), ""},
		{get, head, both(status(204), without("ETag")), ""},
		{get, get, without("ETag"), "tag"},
		{knows, knows, without("ETag"), "tag"},
		{get, knows, keep, "tag"},
		{knows, get, keep, "tag"},
		{api.Req{Method: "GET", Any: true}, get, keep, "tag"},
		{api.Req{Method: "GET", Any: true}, knows, set("ETag", "other"), ""},
		{knows, knows, set("ETag", "other"), "tag"},
		{get, get, both(without("ETag"), without("Content-Length")), "tag"},
		{get, get, without("Content-Length"), "length"},
		{get, get, set("Content-Length", "1"), "length"},
		{get, get, set("Content-Length", "0"+strconv.Itoa(len(b))), "length"},
		{head, head, without("Content-Length"), "length"},
		{head, head, set("Content-Length", "x"), ""},
		{get, zipped, keep, "gzip"},
		{zipped, get, keep, "gzip"},
		{head, zippedHead, keep, "gzip"},
		{zippedHead, head, keep, "gzip"},
		{zipped, zipped, set("Content-Encoding", "GZIP"), "gzip"},
		{zipped, zipped, both(set("Content-Encoding", "br"), set("Content-Length", "1")), "length"},
		{head, head, set("ETag", "other"), ""},
		{zipped, zipped, body("other"), "packed"},
		{zipped, zipped, body(string(other)), "tag"},
		{get, get, set("ETag", packed), "tag"},
		{zipped, zipped, set("ETag", tag), "tag"},
		{get, get, body("other"), "tag"},
		{get, get, both(body("other"), set("ETag", serve.Tag([]byte("other"), false))), "bytes"},
		{get, get, both(body(""), set("ETag", serve.Tag(nil, false))), "empty"},
	} {
		x := answered(c.asked, b, c.change)
		if got := Response(c.r, true, 0, 99, x); got != c.want {
			t.Error(i, got)
		}
	}
	x := answered(get, b, keep)
	if got := Response(get, true, 0, 5, x); got != "limit" {
		t.Error(got)
	}
	if got := Response(get, false, 0, 99, x); got != "json" {
		t.Error(got)
	}
	if got := Response(get, false, 0, 0, answered(get, []byte(doc), keep)); got != "" {
		t.Error(got)
	}
	if got := Response(zipped, true, 0, 99, answered(zipped, one(32, point(-1, 0)), keep)); got != "window" {
		t.Error(got)
	}
	if got := Response(zipped, true, 2, 99, answered(zipped, one(32, point(-1, 0)), keep)); got != "" {
		t.Error(got)
	}
}

func TestP38_4Agrees(t *testing.T) {
	with := func(name, key string) []byte {
		f := point(1, 1)
		f.Attrs = []api.Attr{sample.Text(key, "x")}
		return sample.Tile(api.Layer{Name: name, Extent: 4, Features: []api.Feature{f}})
	}
	for i, c := range []struct {
		b    []byte
		doc  string
		want bool
	}{
		{with("a", "k"), doc, true},
		{nil, doc, true},
		{nil, "{}", true},
		{with("a", "j"), doc, false},
		{with("b", "k"), doc, false},
		{with("a", "k"), "{}", false},
		{nil, "[]", false},
		{nil, "", false},
		{[]byte{0x80}, doc, false},
	} {
		if Agrees(c.b, []byte(c.doc)) != c.want {
			t.Error(i)
		}
	}
}

func TestP38_5Served(t *testing.T) {
	files, l := sample.Files(), sample.Composites()
	agreed := 0
	for _, c := range l {
		docs := serve.Respond(files, l, []byte("GET /"+c.ID+".json HTTP/1.1\r\nHost: x\r\n\r\n"))
		paths := []string{"/" + c.ID + ".json", "/" + c.ID, "/" + c.ID + "/1/2/0.mvt"}
		for z := range 5 {
			for n := range 1 << z {
				paths = append(paths, "/"+c.ID+"/"+strconv.Itoa(z)+"/"+strconv.Itoa(n)+"/"+strconv.Itoa(n*n%(1<<z))+".mvt")
			}
		}
		for _, path := range paths {
			for _, more := range []string{"", "Accept-Encoding: gzip\r\n", "If-None-Match: *\r\n"} {
				for _, method := range []string{"GET ", "HEAD ", "PUT "} {
					b := []byte(method + path + " HTTP/1.1\r\nHost: x\r\n" + more + "\r\n")
					r, _ := req.Parse(b)
					x := serve.Respond(files, l, b)
					_, _, tile, _ := serve.Route(path)
					if got := Response(r, tile, c.Buffer, c.Limit, x); got != "" {
						t.Fatal(path, more, method, got)
					}
					if more == "" && method == "GET " && tile && x.Status == api.StOK && docs.Status == api.StOK {
						agreed++
						if !Agrees(x.Body, docs.Body) {
							t.Fatal(path)
						}
					}
				}
			}
		}
	}
	if agreed < 20 {
		t.Error(agreed)
	}
}
