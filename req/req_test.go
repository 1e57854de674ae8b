package req

import (
	"slices"
	"strings"
	"testing"

	"portolan/api"
)

func TestP33_1Token(t *testing.T) {
	const good = "!#$%&'*+-.^_|~`0123456789abcdefghijklmnopqrstuvwxyzABCDEFGHIJKLMNOPQRSTUVWXYZ"
	for c := range 256 {
		s := string([]byte{byte(c)})
		if Token(s) != strings.Contains(good, s) || Token("a"+s) != strings.Contains(good, s) {
			t.Errorf("%q", s)
		}
	}
	if Token("") || !Token(good) {
		t.Error("Token")
	}
}

func TestP33_1Quality(t *testing.T) {
	for s, want := range map[string]int{
		"0": 0, "1": 1000, "0.": 0, "1.": 1000, "0.5": 500, "0.05": 50, "0.005": 5, "0.999": 999, "1.0": 1000, "1.000": 1000, "0.12": 120, "0.000": 0,
		"": -1, "2": -1, "1.001": -1, "1.1": -1, "0.0000": -1, ".5": -1, "0.5 ": -1, " 0": -1, "0.a": -1, "00": -1, "01": -1, "-0": -1, "0,5": -1, "0.5.": -1, "1.0.0": -1, "0.é": -1, "10": -1,
	} {
		if n, ok := Quality(s); n != max(0, want) || ok != (want >= 0) {
			t.Error(s, n, ok)
		}
	}
}

func TestP33_2Parse(t *testing.T) {
	for i, c := range []struct {
		s string
		q api.Req
	}{
		{"GET / HTTP/1.1\r\nHost: x\r\n\r\n", api.Req{Method: "GET", Path: "/"}},
		{"HEAD /a/1/0/1.mvt?x=1?y HTTP/1.1\r\nhOST:x\r\n\r\n", api.Req{Method: "HEAD", Path: "/a/1/0/1.mvt"}},
		{"x! ?a HTTP/1.1\r\nHost:\t x y \t\r\nContent-Length: 0\r\n\r\n", api.Req{Method: "x!"}},
		{"GET !~ HTTP/1.1\r\nAccept-Encoding: br\r\nHost: x\r\nACCEPT-encoding: gzip;q=0.1\r\n\r\n", api.Req{Method: "GET", Path: "!~", Gzip: true}},
		{"GET / HTTP/1.1\r\nHost: x\r\nIf-None-Match: \"a\"\r\nif-none-match: W/\"b\", \"c\"\r\n\r\n", api.Req{Method: "GET", Path: "/", Tags: []string{`"a"`, `"b"`, `"c"`}}},
		{"GET / HTTP/1.1\r\nHost: x\r\nIf-None-Match: \"a\"\r\nif-none-match:  * \r\n\r\n", api.Req{Method: "GET", Path: "/", Any: true}},
		{"GET / HTTP/1.1\r\nHost: \x80\xff\r\nX:\r\nY: a\tb:c\r\n\r\n", api.Req{Method: "GET", Path: "/"}},
	} {
		q, ok := Parse([]byte(c.s))
		if q.Method != c.q.Method || q.Path != c.q.Path || q.Gzip != c.q.Gzip || q.Any != c.q.Any || !slices.Equal(q.Tags, c.q.Tags) || !ok {
			t.Error(i, q, ok)
		}
	}
}

func TestP33_2Wrong(t *testing.T) {
	good := "GET /a HTTP/1.1\r\nHost: x\r\nA: b\r\n\r\n"
	if _, ok := Parse([]byte(good)); !ok {
		t.Fatal(good)
	}
	for n := range good {
		if q, ok := Parse([]byte(good[:n])); ok || q.Method != "" {
			t.Errorf("%q", good[:n])
		}
	}
	for i, c := range []struct{ old, new string }{
		{"\r\n\r\n", "\r\n\r\n\r\n"},
		{"\r\n\r\n", "\r\n\r\nx"},
		{"\r\n", "\n"},
		{"\r\n", "\r"},
		{"A: b", "A: b\rc"},
		{"A: b", "A: b\nc"},
		{"A: b", "A: b\r"},
		{"A: b", "A: b\x00"},
		{"A: b", "A: b\x1f"},
		{"A: b", "A: b\x7f"},
		{"A: b", "A : b"},
		{"A: b", " A: b"},
		{"A: b", "A b"},
		{"A: b", ": b"},
		{"A: b", "é: b"},
		{"GET /a", "GET  /a"},
		{"GET /a", " /a"},
		{"GET /a", "G T /a"},
		{"GET /a", "G(T /a"},
		{"GET /a", "GET/a"},
		{"GET /a", "GET /a\x7f"},
		{"GET /a", "GET /\xc3\xa9"},
		{"GET /a", "GET /a\tb"},
		{"GET /a", "GET "},
		{"HTTP/1.1", "HTTP/1.0"},
		{"HTTP/1.1", "http/1.1"},
		{"HTTP/1.1", "HTTP/1.1 "},
		{"HTTP/1.1", " HTTP/1.1"},
		{" HTTP/1.1", ""},
		{"Host: x", "Host: "},
		{"Host: x", "Host:"},
		{"Host: x", "Hosts: x"},
		{"Host: x", "Host: x\r\nHOST: x"},
		{"A: b", "Content-Length: 1"},
		{"A: b", "Content-Length: 00"},
		{"A: b", "Content-Length:"},
		{"A: b", "Content-Length: 0\r\ncontent-length: 0"},
		{"A: b", "Transfer-Encoding: chunked"},
		{"A: b", "transfer-encoding:"},
		{good, "\r\n"},
		{good, "\r\n" + good},
	} {
		s := strings.Replace(good, c.old, c.new, 1)
		if q, ok := Parse([]byte(s)); s == good || ok || q.Method != "" || q.Path != "" || len(q.Tags) > 0 {
			t.Errorf("%d: %q %v", i, s, q)
		}
	}
	full := strings.Replace(good, "A: b", "A: "+strings.Repeat("b", api.MaxReq-len(good)+1), 1)
	if _, ok := Parse([]byte(full)); !ok || len(full) != api.MaxReq {
		t.Error(len(full))
	}
	if _, ok := Parse([]byte(strings.Replace(full, "A:", "AB:", 1))); ok {
		t.Error("too long")
	}
}

func TestP33_3Accepts(t *testing.T) {
	for i, c := range []struct {
		values []string
		want   bool
	}{
		{nil, false},
		{[]string{""}, false},
		{[]string{"gzip"}, true},
		{[]string{"gzip;q=0, *"}, false},
		{[]string{"br, GZIP;q=0.5"}, true},
		{[]string{"*"}, true},
		{[]string{"*;q=0"}, false},
		{[]string{"*;q=0.001"}, true},
		{[]string{"*;q=0, *"}, false},
		{[]string{"*, gzip;q=0"}, false},
		{[]string{"*;q=0, gzip"}, true},
		{[]string{"gzip;q=0", "gzip"}, false},
		{[]string{"br", "gzip"}, true},
		{[]string{"gzip;q=2, gzip"}, true},
		{[]string{"gzip;q=2, gzip;q=0"}, false},
		{[]string{"gzip;x, *"}, true},
		{[]string{"\tgzip \t; \tq=0.001 "}, true},
		{[]string{"gzip;Q=1"}, true},
		{[]string{"gzip;q =1"}, false},
		{[]string{"gzip;q= 1"}, false},
		{[]string{"gzip;q=1;x"}, false},
		{[]string{"gzip;"}, false},
		{[]string{"gzip;q="}, false},
		{[]string{"gzip;q=0.0"}, false},
		{[]string{"gzip;q=1."}, true},
		{[]string{"gzipx, xgzip, g zip"}, false},
		{[]string{"deflate,,gzip,"}, true},
		{[]string{"g\u0130zip"}, false},
		{[]string{"gz\u0131p"}, false},
		{[]string{"gzip\r"}, false},
	} {
		if Accepts(c.values) != c.want {
			t.Error(i, c.values)
		}
	}
}

func TestP33_3Tags(t *testing.T) {
	for i, c := range []struct {
		values []string
		tags   []string
		any    bool
	}{
		{nil, nil, false},
		{[]string{"*"}, nil, true},
		{[]string{`"a"`, "*"}, nil, true},
		{[]string{"* "}, nil, false},
		{[]string{`"a", *`}, []string{`"a"`}, false},
		{[]string{`"a"`}, []string{`"a"`}, false},
		{[]string{` ,	"a" , W/"b","c"`, `"d"`}, []string{`"a"`, `"b"`, `"c"`, `"d"`}, false},
		{[]string{`"a""b"W/"c"`}, []string{`"a"`, `"b"`, `"c"`}, false},
		{[]string{`""`, `"!#~é` + "\xff" + `"`}, []string{`""`, `"!#~é` + "\xff" + `"`}, false},
		{[]string{`"a" x "b"`, `"c"`}, []string{`"a"`, `"c"`}, false},
		{[]string{`"a`, `"b`}, nil, false},
		{[]string{`"a b"`, "\"a\x7f\"", "\"a\x1f\""}, nil, false},
		{[]string{`w/"a"`, `W /"a"`, `W/W/"a"`, `W/a`, `W/`, `W`}, nil, false},
		{[]string{`"a";"b"`}, []string{`"a"`}, false},
	} {
		tags, any := Tags(c.values)
		if !slices.Equal(tags, c.tags) || any != c.any {
			t.Error(i, tags, any)
		}
	}
}

func TestP33_4OtherHeaders(t *testing.T) {
	head, tail := "GET /a?b HTTP/1.1\r\nHost: x\r\n", "Accept-Encoding: gzip\r\nIf-None-Match: \"a\"\r\n\r\n"
	for _, more := range []string{"", "Cookie: host\r\n", "Accept: gzip;q=0\r\nX-Host: y\r\n", "Connection: close\r\n", "Range: bytes=0-1\r\nIf-Match: *\r\n", "Expect:\r\n"} {
		q, ok := Parse([]byte(head + more + tail))
		if q.Method != "GET" || q.Path != "/a" || !q.Gzip || q.Any || !slices.Equal(q.Tags, []string{`"a"`}) || !ok {
			t.Error(more, q, ok)
		}
	}
}
