package script

import (
	"bytes"
	"slices"
	"strings"
	"testing"

	"portolan/api"
	"portolan/conf"
	"portolan/sample"
	"portolan/serve"
	"portolan/wire"
)

func small() api.Play {
	return api.Play{Conf: "[]", Files: []api.File{{Name: "a", Data: []byte("bc")}, {}}, Entries: -1, Size: 300, Requests: [][]byte{[]byte("x"), nil}}
}

func large() api.Play {
	p := api.Play{Conf: conf.Text(sample.Composites()), Files: sample.Files(), Entries: 2, Size: 1 << 20}
	for _, s := range []string{"GET /all/1/0/1.mvt", "HEAD /all/1/0/1.mvt", "GET /all.json", "GET /none", "PUT /all.json", "GET /all/1/0/1.mvt"} {
		p.Requests = append(p.Requests, []byte(s+" HTTP/1.1\r\nHost: x\r\n\r\n"))
	}
	return p
}

func TestP37_1Put(t *testing.T) {
	want := "\x0a\x02[]\x12\x07\x0a\x01a\x12\x02bc\x12\x04\x0a\x00\x12\x00\x18\x01\x20\xd8\x04\x2a\x01x\x2a\x00"
	if b, e := Put(small()); string(b) != want || e != api.OK {
		t.Errorf("%x %d", b, e)
	}
	if b, e := Put(api.Play{}); string(b) != "\x0a\x00\x18\x00\x20\x00" || e != api.OK {
		t.Errorf("%x %d", b, e)
	}
}

func with(change func(p *api.Play)) api.Play {
	p := small()
	change(&p)
	return p
}

// unchecked returns what Put would return without limits.
func unchecked(p api.Play) []byte {
	l := []api.Field{{Num: 1, Kind: api.KindBytes, Data: []byte(p.Conf)}, {Num: 3, Int: wire.Zig(p.Entries)}, {Num: 4, Int: wire.Zig(p.Size)}}
	for _, f := range p.Files {
		l = append(l, api.Field{Num: 2, Kind: api.KindBytes, Data: wire.Put([]api.Field{{Num: 1, Kind: api.KindBytes, Data: []byte(f.Name)}, {Num: 2, Kind: api.KindBytes, Data: f.Data}})})
	}
	for _, b := range p.Requests {
		l = append(l, api.Field{Num: 5, Kind: api.KindBytes, Data: b})
	}
	return wire.Put(l)
}

func TestP37_1Limits(t *testing.T) {
	long := make([]byte, api.MaxFile+1)
	for i, c := range []struct {
		p api.Play
		e api.Errno
	}{
		{with(func(p *api.Play) { p.Files = make([]api.File, api.MaxFiles) }), api.OK},
		{with(func(p *api.Play) { p.Files = make([]api.File, api.MaxFiles+1) }), api.ErrMany},
		{with(func(p *api.Play) { p.Requests = make([][]byte, api.MaxRequests) }), api.OK},
		{with(func(p *api.Play) { p.Requests = make([][]byte, api.MaxRequests+1) }), api.ErrMany},
		{with(func(p *api.Play) { p.Conf = string(long[:api.MaxData]) }), api.OK},
		{with(func(p *api.Play) { p.Conf = string(long[:api.MaxData+1]) }), api.ErrLong},
		{with(func(p *api.Play) { p.Files[1].Name = string(long[:api.MaxData]) }), api.OK},
		{with(func(p *api.Play) { p.Files[1].Name = string(long[:api.MaxData+1]) }), api.ErrLong},
		{with(func(p *api.Play) { p.Files[1].Data = long[:api.MaxFile] }), api.OK},
		{with(func(p *api.Play) { p.Files[1].Data = long }), api.ErrLong},
		{with(func(p *api.Play) { p.Requests[1] = long[:2*api.MaxReq] }), api.OK},
		{with(func(p *api.Play) { p.Requests[1] = long[:2*api.MaxReq+1] }), api.ErrLong},
		{with(func(p *api.Play) { p.Requests[1], p.Files = long, make([]api.File, api.MaxFiles+1) }), api.ErrMany},
	} {
		if b, e := Put(c.p); e != c.e || e != api.OK && len(b) > 0 {
			t.Error(i, len(b), e)
		}
		if p, e := Get(unchecked(c.p)); e != c.e || e == api.OK && !Same(p, c.p) || e != api.OK && !Same(p, api.Play{}) {
			t.Error(i, e)
		}
	}
}

func TestP37_1Get(t *testing.T) {
	text := func(num int, s string) api.Field {
		return api.Field{Num: num, Kind: api.KindBytes, Data: []byte(s)}
	}
	num := func(num int, n uint64) api.Field { return api.Field{Num: num, Int: n} }
	file := text(2, "\x0a\x01a\x12\x01b")
	good := []api.Field{num(4, 3), text(5, "x"), file, text(1, "[]"), text(5, "y"), num(3, 2), file}
	p, e := Get(wire.Put(good))
	one := api.File{Name: "a", Data: []byte("b")}
	want := api.Play{Conf: "[]", Files: []api.File{one, one}, Entries: 1, Size: -2, Requests: [][]byte{[]byte("x"), []byte("y")}}
	if !Same(p, want) || e != api.OK {
		t.Error(p, e)
	}
	for i, c := range []struct {
		l []api.Field
		e api.Errno
	}{
		{good[1:], api.ErrForm},
		{good[:5], api.ErrForm},
		{slices.Delete(slices.Clone(good), 3, 4), api.ErrForm},
		{append(slices.Clone(good), num(3, 1)), api.ErrForm},
		{append(slices.Clone(good), num(4, 1)), api.ErrForm},
		{append(slices.Clone(good), text(1, "")), api.ErrForm},
		{append(slices.Clone(good), num(6, 1)), api.ErrForm},
		{append(slices.Clone(good), text(6, "")), api.ErrForm},
		{append(slices.Clone(good), num(2, 1)), api.ErrForm},
		{append(slices.Clone(good), num(5, 1)), api.ErrForm},
		{append(slices.Clone(good[1:]), text(4, "1")), api.ErrForm},
		{append(slices.Clone(good), text(2, "")), api.ErrForm},
		{append(slices.Clone(good), text(2, "\x0a\x01a")), api.ErrForm},
		{append(slices.Clone(good), text(2, "\x12\x01b\x0a\x01a")), api.ErrForm},
		{append(slices.Clone(good), text(2, "\x0a\x01a\x12\x01b\x18\x01")), api.ErrForm},
		{append(slices.Clone(good), text(2, "\x0a\x01a\x10\x01")), api.ErrForm},
		{append(slices.Clone(good), text(2, "\x08\x01\x12\x01b")), api.ErrForm},
		{append(slices.Clone(good), text(2, "\x0a\x01a\x0a\x01b")), api.ErrForm},
		{append(slices.Clone(good), text(2, "\x0a\x05a")), api.ErrShort},
		{append(slices.Clone(good), text(2, "\x0a\x05a"), text(2, "")), api.ErrShort},
		{append(slices.Clone(good), text(2, "\x0a\x05a"), num(7, 1)), api.ErrForm},
	} {
		if p, e := Get(wire.Put(c.l)); !Same(p, api.Play{}) || e != c.e {
			t.Error(i, p, e)
		}
	}
	for s, want := range map[string]api.Errno{"": api.ErrForm, "\x80": api.ErrShort, "\x0f": api.ErrForm} {
		if _, e := Get([]byte(s)); e != want {
			t.Errorf("%x: %d", s, e)
		}
	}
}

func TestP37_1Same(t *testing.T) {
	for i, p := range []api.Play{
		with(func(p *api.Play) { p.Conf = "" }),
		with(func(p *api.Play) { p.Files = p.Files[:1] }),
		with(func(p *api.Play) { p.Files[0].Name = "b" }),
		with(func(p *api.Play) { p.Files[0].Data = nil }),
		with(func(p *api.Play) { p.Entries = 0 }),
		with(func(p *api.Play) { p.Size = 0 }),
		with(func(p *api.Play) { p.Requests = p.Requests[:1] }),
		with(func(p *api.Play) { p.Requests[0] = nil }),
	} {
		if Same(p, small()) || Same(small(), p) {
			t.Error(i)
		}
	}
	if !Same(small(), with(func(p *api.Play) { p.Requests[1], p.Files[1].Data = []byte{}, []byte{} })) || !Same(api.Play{}, api.Play{Files: []api.File{}}) {
		t.Error("Same")
	}
}

func TestP37_2Run(t *testing.T) {
	if l, e := Run(api.Play{Conf: "[]"}); len(l) != 0 || e != api.OK {
		t.Error(l, e)
	}
	for s, want := range map[string]api.Errno{"": api.ErrShort, "{}": api.ErrForm, strings.Repeat(" ", api.MaxData+1): api.ErrLong, "[1e9999]": api.ErrRange} {
		p := large()
		p.Conf = s
		if l, e := Run(p); len(l) != 0 || e != want {
			t.Error(l, e)
		}
	}
	p := large()
	l, e := Run(p)
	if len(l) != len(p.Requests) || e != api.OK {
		t.Fatal(len(l), e)
	}
	var want []byte
	for i, b := range p.Requests {
		x := serve.Respond(p.Files, sample.Composites(), b)
		want = append(want, serve.Bytes(x)...)
		if !bytes.Equal(serve.Bytes(l[i]), serve.Bytes(x)) {
			t.Error(i)
		}
	}
	if !bytes.Equal(Bytes(l), want) || len(Bytes(nil)) != 0 {
		t.Error("Bytes")
	}
}

func TestP37_3RoundTrip(t *testing.T) {
	for i, p := range []api.Play{{}, small(), large(), {Entries: 1<<63 - 1, Size: -1 << 63}} {
		b, e := Put(p)
		q, f := Get(b)
		if !Same(p, q) || e != api.OK || f != api.OK {
			t.Error(i, e, f)
		}
	}
	once, _ := Run(large())
	twice, _ := Run(large())
	if !bytes.Equal(Bytes(once), Bytes(twice)) {
		t.Error("not the same again")
	}
}
