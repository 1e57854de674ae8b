package serve

import (
	"bytes"
	"fmt"
	"hash/crc32"
	"slices"
	"strings"
	"testing"

	"portolan/api"
	"portolan/comp"
	"portolan/gzip"
	"portolan/sample"
	"portolan/tjson"
)

func TestP35_1Route(t *testing.T) {
	for path, want := range map[string]string{
		"/a/1/0/1.mvt":                          "a 1/0/1 true",
		"/a.json":                               "a 0/0/0 false",
		"/a-b_9/0/0/0.mvt":                      "a-b_9 0/0/0 true",
		"/a/9999999999/10/1000000000.mvt":       "a 9999999999/10/1000000000 true",
		"/" + strings.Repeat("a", 64) + ".json": strings.Repeat("a", 64) + " 0/0/0 false",
	} {
		id, p, tile, ok := Route(path)
		if got := fmt.Sprintf("%s %d/%d/%d %v", id, p.Z, p.X, p.Y, tile); got != want || !ok {
			t.Error(path, got, ok)
		}
	}
	for _, path := range []string{
		"", "/", "a.json", "/.json", "/A.json", "/a.JSON", "/a.jso", "/a.json/", "//a.json", "/a/b.json", "/a b.json", "/a.b.json", "/" + strings.Repeat("a", 65) + ".json",
		"/a/1/0/1", "/a/1/0.mvt", "/a/1/0/1/2.mvt", "/a/01/0/1.mvt", "/a/1/00/1.mvt", "/a/1/0/01.mvt", "/a//0/1.mvt", "/a/1//1.mvt", "/a/1/0/.mvt",
		"/a/-1/0/1.mvt", "/a/+1/0/1.mvt", "/a/1/0/1.MVT", "/a/1/0/1.mvt/", "x/a/1/0/1.mvt", "/A/1/0/1.mvt", "//1/0/1.mvt", "/a/1/0/1.mvt.mvt",
		"/a/10000000000/0/0.mvt", "/a/1/0x1/0.mvt", "/a/1/0/1.json", "/a/1.0/0/1.mvt", "/a/1/0/1.mvt?",
	} {
		if id, p, tile, ok := Route(path); id != "" || p != (api.Place{}) || tile || ok {
			t.Error(path, id, p, tile, ok)
		}
	}
}

func TestP35_1Content(t *testing.T) {
	files, l := sample.Files(), sample.Composites()
	for path, want := range map[string]int{
		"/all/1/0/1.mvt": api.StOK, "/all.json": api.StOK, "/other.json": api.StUnknown, "/other/0/0/0.mvt": api.StUnknown, "/all": api.StUnknown, "": api.StUnknown,
		"/all/6/0/0.mvt": api.StUnknown, "/all/1/2/0.mvt": api.StBad, "/undescribed/2/3/3.mvt": api.StNone, "/tight/0/0/0.mvt": api.StBig,
		"/bad/0/0/0.mvt": api.StBroken, "/bad.json": api.StBroken, "/garbage.json": api.StOK, "/garbage/0/0/0.mvt": api.StBroken,
	} {
		body, kind, status := Content(files, l, path)
		if status != want || (len(body) > 0) != (status == api.StOK) || (kind != "") != (status == api.StOK) {
			t.Error(path, len(body), kind, status)
		}
	}
	nameless := []api.Composite{{Sources: l[0].Sources}}
	for _, path := range []string{"/x", "", "/.json"} {
		if _, _, status := Content(files, nameless, path); status != api.StUnknown {
			t.Error(path, status)
		}
	}
	b, _ := comp.Tile(files, l[0], sample.Place(1, 0, 1))
	if body, kind, _ := Content(files, l, "/all/1/0/1.mvt"); !bytes.Equal(body, b) || kind != "application/vnd.mapbox-vector-tile" {
		t.Error(kind)
	}
	s, _ := tjson.Doc(files, l[0])
	if body, kind, _ := Content(files, l, "/all.json"); string(body) != s || kind != "application/json" {
		t.Error(kind)
	}
}

func TestP35_2Tag(t *testing.T) {
	for _, s := range []string{"", "abc", "123456789", "codding"} {
		want := fmt.Sprintf("\"%08x-%d", crc32.ChecksumIEEE([]byte(s)), len(s))
		if Tag([]byte(s), false) != want+"\"" || Tag([]byte(s), true) != want+"-g\"" {
			t.Error(s, Tag([]byte(s), false))
		}
	}
	if Tag(nil, false) != `"00000000-0"` {
		t.Error(Tag(nil, false))
	}
}

func heads(x api.Resp) string {
	var l []string
	for _, h := range x.Heads {
		l = append(l, h[0]+"="+h[1])
	}
	return strings.Join(l, ";")
}

func TestP35_2Answer(t *testing.T) {
	body := []byte("body")
	z, _ := gzip.Wrap(body)
	plain, packed := Tag(body, false), Tag(body, true)
	vary := "Vary=Accept-Encoding;ETag="
	for i, c := range []struct {
		r      api.Req
		status int
		want   int
		heads  string
		body   string
	}{
		{api.Req{Method: "GET"}, 200, 200, "Content-Type=k;" + vary + plain + ";Content-Length=4", "body"},
		{api.Req{Method: "HEAD"}, 200, 200, "Content-Type=k;" + vary + plain + ";Content-Length=4", ""},
		{api.Req{Method: "GET", Gzip: true}, 200, 200, "Content-Type=k;Content-Encoding=gzip;" + vary + packed + fmt.Sprint(";Content-Length=", len(z)), string(z)},
		{api.Req{Method: "HEAD", Gzip: true}, 200, 200, "Content-Type=k;Content-Encoding=gzip;" + vary + packed + fmt.Sprint(";Content-Length=", len(z)), ""},
		{api.Req{Method: "GET", Tags: []string{"x", plain}}, 200, 304, vary + plain, ""},
		{api.Req{Method: "HEAD", Tags: []string{plain}}, 200, 304, vary + plain, ""},
		{api.Req{Method: "GET", Any: true}, 200, 304, vary + plain, ""},
		{api.Req{Method: "GET", Any: true, Gzip: true}, 200, 304, vary + packed, ""},
		{api.Req{Method: "GET", Tags: []string{packed}}, 200, 200, "Content-Type=k;" + vary + plain + ";Content-Length=4", "body"},
		{api.Req{Method: "GET", Tags: []string{packed}, Gzip: true}, 200, 304, vary + packed, ""},
		{api.Req{Method: "GET", Any: true}, 204, 204, "", ""},
		{api.Req{Method: "GET", Any: true}, 400, 400, "Content-Length=0", ""},
		{api.Req{Method: "HEAD", Gzip: true}, 404, 404, "Content-Length=0", ""},
		{api.Req{}, 405, 405, "Content-Length=0", ""},
		{api.Req{}, 500, 500, "Content-Length=0", ""},
		{api.Req{}, 502, 502, "Content-Length=0", ""},
		{api.Req{}, 304, 304, "Content-Length=0", ""},
		{api.Req{}, 0, 0, "Content-Length=0", ""},
	} {
		x := Answer(c.r, body, "k", c.status)
		if x.Status != c.want || heads(x) != c.heads || string(x.Body) != c.body {
			t.Error(i, x.Status, heads(x), x.Body)
		}
	}
	x := Answer(api.Req{Method: "GET"}, body, "k", 200)
	x.Body[0] = 'z'
	if string(body) != "body" {
		t.Error("shared")
	}
}

func TestP35_3Respond(t *testing.T) {
	files, l := sample.Files(), sample.Composites()
	for _, c := range []struct {
		s     string
		want  int
		heads string
	}{
		{"", 400, "Content-Length=0"},
		{"GET /all.json HTTP/1.1\r\n\r\n", 400, "Content-Length=0"},
		{"BAD /all.json HTTP/1.0\r\nHost: x\r\n\r\n", 400, "Content-Length=0"},
		{"POST /all.json HTTP/1.1\r\nHost: x\r\n\r\n", 405, "Allow=GET, HEAD;Content-Length=0"},
		{"get /none HTTP/1.1\r\nHost: x\r\nIf-None-Match: *\r\n\r\n", 405, "Allow=GET, HEAD;Content-Length=0"},
		{"GET /none HTTP/1.1\r\nHost: x\r\n\r\n", 404, "Content-Length=0"},
		{"GET /all/1/2/0.mvt HTTP/1.1\r\nHost: x\r\n\r\n", 400, "Content-Length=0"},
		{"GET /undescribed/2/3/3.mvt HTTP/1.1\r\nHost: x\r\n\r\n", 204, ""},
		{"HEAD /tight/0/0/0.mvt HTTP/1.1\r\nHost: x\r\n\r\n", 500, "Content-Length=0"},
		{"GET /bad.json HTTP/1.1\r\nHost: x\r\n\r\n", 502, "Content-Length=0"},
	} {
		x := Respond(files, l, []byte(c.s))
		if x.Status != c.want || heads(x) != c.heads || len(x.Body) > 0 {
			t.Errorf("%q: %d %s", c.s, x.Status, heads(x))
		}
	}
	body, kind, status := Content(files, l, "/all/1/0/1.mvt")
	for _, method := range []string{"GET", "HEAD"} {
		for _, gz := range []bool{false, true} {
			s := method + " /all/1/0/1.mvt?x HTTP/1.1\r\nHost: x\r\n"
			if gz {
				s += "Accept-Encoding: gzip\r\n"
			}
			x := Respond(files, l, []byte(s+"\r\n"))
			want := Answer(api.Req{Method: method, Gzip: gz}, body, kind, status)
			if !bytes.Equal(Bytes(x), Bytes(want)) || x.Status != 200 {
				t.Error(s, x.Status)
			}
		}
	}
}

func TestP35_3Reason(t *testing.T) {
	for status, want := range map[int]string{200: "OK", 204: "No Content", 304: "Not Modified", 400: "Bad Request", 404: "Not Found", 405: "Method Not Allowed",
		500: "Internal Server Error", 502: "Bad Gateway", 0: "", 201: "", -1: "", 503: ""} {
		if Reason(status) != want {
			t.Error(status, Reason(status))
		}
	}
}

func TestP35_3Bytes(t *testing.T) {
	x := api.Resp{Status: 200, Heads: [][2]string{{"A", "b"}, {"C", ""}}, Body: []byte("x\r\n")}
	if b := Bytes(x); string(b) != "HTTP/1.1 200 OK\r\nA: b\r\nC: \r\n\r\nx\r\n" {
		t.Errorf("%q", b)
	}
	if b := Bytes(api.Resp{Status: -5}); string(b) != "HTTP/1.1 -5 \r\n\r\n" {
		t.Errorf("%q", b)
	}
}

func TestP35_4Consequences(t *testing.T) {
	files, l := sample.Files(), sample.Composites()
	ask := func(method, path string, more ...string) api.Resp {
		return Respond(files, l, []byte(method+" "+path+" HTTP/1.1\r\nHost: x\r\n"+strings.Join(more, "")+"\r\n"))
	}
	for _, path := range []string{"/all.json", "/all/0/0/0.mvt", "/all/4/3/2.mvt", "/lands.json", "/undescribed/2/3/3.mvt", "/none", "/bad.json"} {
		plain, packed := ask("GET", path), ask("GET", path, "Accept-Encoding: gzip\r\n")
		if plain.Status == 200 {
			b, e := gzip.Unwrap(packed.Body, api.MaxData)
			if !bytes.Equal(b, plain.Body) || e != api.OK {
				t.Error(path, e)
			}
		}
		for _, x := range []api.Resp{plain, packed} {
			gz := "X: y\r\n"
			if slices.ContainsFunc(x.Heads, func(h [2]string) bool { return h[0] == "Content-Encoding" }) {
				gz = "Accept-Encoding: gzip\r\n"
			}
			head := ask("HEAD", path, gz)
			if head.Status != x.Status || heads(head) != heads(x) || len(head.Body) > 0 {
				t.Error(path, head)
			}
			i := slices.IndexFunc(x.Heads, func(h [2]string) bool { return h[0] == "ETag" })
			if i < 0 {
				if y := ask("GET", path, gz, "If-None-Match: *\r\n"); y.Status != x.Status || x.Status == 200 {
					t.Error(path, y.Status)
				}
				continue
			}
			tag := x.Heads[i][1]
			other := tag[:len(tag)-1] + `x"`
			for match, want := range map[string]int{tag: 304, "*": 304, "W/" + tag: 304, `"a", ` + tag: 304, `"a"`: 200, other: 200} {
				if y := ask("GET", path, gz, "If-None-Match: "+match+"\r\n"); y.Status != want {
					t.Error(path, match, y.Status)
				}
			}
		}
	}
}
