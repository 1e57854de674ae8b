package arch

import (
	"bytes"
	"encoding/binary"
	"slices"
	"testing"

	"portolan/api"
	"portolan/dir"
	"portolan/gzip"
	"portolan/hilb"
)

func entry(id, off, size, run uint64) api.Entry {
	return api.Entry{ID: id, Off: off, Len: size, Run: run}
}

func put(t *testing.T, l ...api.Entry) []byte {
	b, e := dir.Put(l)
	if e != api.OK {
		t.Fatal(e)
	}
	return b
}

func wrap(b []byte) []byte {
	z, _ := gzip.Wrap(b)
	return z
}

// laid returns an archive of these parts, one after the other.
func laid(h api.Header, root, meta, leaves, data []byte) ([]byte, api.Header) {
	at := uint64(127)
	part := func(b []byte) [2]uint64 {
		p := [2]uint64{at, uint64(len(b))}
		at += p[1]
		return p
	}
	h.Root, h.Meta, h.Leaves, h.Data = part(root), part(meta), part(leaves), part(data)
	return slices.Concat(PutHead(h), root, meta, leaves, data), h
}

func base(inner, outer int) api.Header {
	return api.Header{Inner: inner, Outer: outer, Kind: 1, MaxZoom: 30}
}

func full() api.Header {
	return api.Header{
		Root: [2]uint64{1, 2}, Meta: [2]uint64{3, 4}, Leaves: [2]uint64{5, 6}, Data: [2]uint64{7, 8},
		Counts: [3]uint64{9, 10, 1<<64 - 1}, Clustered: true, Inner: 2, Outer: 1, Kind: 1, MinZoom: 3, MaxZoom: 14,
		Min: api.Pt{X: -1800000000, Y: -900000000}, Max: api.Pt{X: 1800000000, Y: 900000000}, Center: api.Pt{X: -5, Y: 6}, At: 7,
	}
}

func TestP13_1PutHead(t *testing.T) {
	b := PutHead(full())
	if len(b) != 127 || string(b[:8]) != "PMTiles\x03" {
		t.Fatalf("%x", b)
	}
	for i, want := range []uint64{1, 2, 3, 4, 5, 6, 7, 8, 9, 10, 1<<64 - 1} {
		if v := binary.LittleEndian.Uint64(b[8+8*i:]); v != want {
			t.Error(i, v)
		}
	}
	if !bytes.Equal(b[96:102], []byte{1, 2, 1, 1, 3, 14}) || b[118] != 7 {
		t.Errorf("%x", b[96:])
	}
	for i, want := range []int32{-1800000000, -900000000, 1800000000, 900000000} {
		if v := int32(binary.LittleEndian.Uint32(b[102+4*i:])); v != want {
			t.Error(i, v)
		}
	}
	if int32(binary.LittleEndian.Uint32(b[119:])) != -5 || binary.LittleEndian.Uint32(b[123:]) != 6 {
		t.Errorf("%x", b[119:])
	}
	if h, e := Head(b); h != full() || e != api.OK {
		t.Error(h, e)
	}
	odd := PutHead(api.Header{Inner: 256 + 5, At: -1, Min: api.Pt{X: 1<<32 + 3}})
	if odd[96] != 0 || odd[97] != 5 || odd[118] != 255 || odd[102] != 3 || odd[106] != 0 {
		t.Errorf("%x", odd)
	}
}

func TestP13_2Right(t *testing.T) {
	for i, c := range []struct {
		change func(h *api.Header)
		e      api.Errno
	}{
		{func(h *api.Header) {}, api.OK},
		{func(h *api.Header) { h.Inner = 0 }, api.ErrForm},
		{func(h *api.Header) { h.Inner = 3 }, api.ErrForm},
		{func(h *api.Header) { h.Outer = 0 }, api.ErrForm},
		{func(h *api.Header) { h.Outer = 3 }, api.ErrForm},
		{func(h *api.Header) { h.Kind = 2 }, api.ErrForm},
		{func(h *api.Header) { h.Kind = 0 }, api.ErrForm},
		{func(h *api.Header) { h.MinZoom = 15 }, api.ErrForm},
		{func(h *api.Header) { h.MinZoom = 14 }, api.OK},
		{func(h *api.Header) { h.MinZoom = -1 }, api.ErrForm},
		{func(h *api.Header) { h.MaxZoom = 30 }, api.OK},
		{func(h *api.Header) { h.MaxZoom = 31 }, api.ErrForm},
		{func(h *api.Header) { h.At = 30 }, api.OK},
		{func(h *api.Header) { h.At = 31 }, api.ErrForm},
		{func(h *api.Header) { h.At = -1 }, api.ErrForm},
		{func(h *api.Header) { h.Min.X-- }, api.ErrForm},
		{func(h *api.Header) { h.Min.Y-- }, api.ErrForm},
		{func(h *api.Header) { h.Max.X++ }, api.ErrForm},
		{func(h *api.Header) { h.Max.Y++ }, api.ErrForm},
		{func(h *api.Header) { h.Center.X = 1800000001 }, api.ErrForm},
		{func(h *api.Header) { h.Center.X = 1800000000 }, api.OK},
		{func(h *api.Header) { h.Center.Y = -900000001 }, api.ErrForm},
		{func(h *api.Header) { h.Min.X, h.Max.X = 5, 4 }, api.ErrForm},
		{func(h *api.Header) { h.Min.Y, h.Max.Y = 5, 4 }, api.ErrForm},
		{func(h *api.Header) { h.Min = h.Max }, api.OK},
		{func(h *api.Header) { h.Root = [2]uint64{16, 0} }, api.ErrRange},
		{func(h *api.Header) { h.Root = [2]uint64{15, 0} }, api.OK},
		{func(h *api.Header) { h.Meta = [2]uint64{10, 6} }, api.ErrRange},
		{func(h *api.Header) { h.Leaves = [2]uint64{0, 16} }, api.ErrRange},
		{func(h *api.Header) { h.Data = [2]uint64{8, 1<<64 - 1} }, api.ErrRange},
		{func(h *api.Header) { h.Data = [2]uint64{1<<64 - 1, 2} }, api.ErrRange},
		{func(h *api.Header) { h.Kind, h.Data[0] = 2, 99 }, api.ErrForm},
	} {
		h := full()
		c.change(&h)
		if e := Right(h, 15); e != c.e {
			t.Error(i, e)
		}
	}
	h := base(1, 1)
	if Right(h, -5) != api.OK || Right(full(), -5) != api.ErrRange || Right(full(), 14) != api.ErrRange {
		t.Error("n")
	}
}

func TestP13_2Head(t *testing.T) {
	good := PutHead(full())
	with := func(at int, c byte) []byte {
		b := slices.Clone(good)
		b[at] = c
		return b
	}
	plain := with(96, 0)
	if h, e := Head(plain); h.Clustered || e != api.OK {
		t.Error(h, e)
	}
	for i, c := range []struct {
		b []byte
		e api.Errno
	}{
		{nil, api.ErrShort},
		{good[:126], api.ErrShort},
		{with(0, 'p')[:126], api.ErrShort},
		{append(slices.Clone(good), make([]byte, api.MaxFile-127)...), api.OK},
		{append(with(0, 'p'), make([]byte, api.MaxFile-126)...), api.ErrLong},
		{with(0, 'p'), api.ErrForm},
		{with(7, 2), api.ErrForm},
		{with(96, 2), api.ErrForm},
		{with(97, 0), api.ErrForm},
		{with(99, 2), api.ErrForm},
		{with(101, 31), api.ErrForm},
		{with(8, 127), api.ErrRange},
	} {
		if h, e := Head(c.b); e != c.e || e != api.OK && h != (api.Header{}) {
			t.Error(i, h, e)
		}
	}
}

func TestP13_3Dir(t *testing.T) {
	d := put(t, entry(5, 0, 1, 1))
	b := slices.Concat([]byte("xx"), d, wrap(d))
	n, z := uint64(len(d)), uint64(len(wrap(d)))
	for i, c := range []struct {
		inner int
		at, n uint64
		e     api.Errno
	}{
		{1, 2, n, api.OK},
		{2, 2 + n, z, api.OK},
		{9, 2 + n, z, api.OK},
		{1, 2, n + z, api.ErrForm},
		{1, 2, n + z + 1, api.ErrRange},
		{1, 3 + n + z, 0, api.ErrRange},
		{1, 2 + n + z, 0, api.ErrShort},
		{1, 1 << 63, 1 << 63, api.ErrRange},
		{2, 2, n, api.ErrShort},
		{2, 2, n + z, api.ErrForm},
	} {
		l, e := Dir(b, api.Header{Inner: c.inner, Outer: 3 - c.inner}, c.at, c.n)
		if e != c.e || e == api.OK && !dir.Same(l, []api.Entry{entry(5, 0, 1, 1)}) || e != api.OK && len(l) > 0 {
			t.Error(i, l, e)
		}
	}
}

func TestP13_3Meta(t *testing.T) {
	long := make([]byte, api.MaxData+1)
	twice, _ := gzip.Wrap(long[1:])
	for i, c := range []struct {
		inner int
		meta  []byte
		out   []byte
		e     api.Errno
	}{
		{1, []byte("{}"), []byte("{}"), api.OK},
		{2, wrap([]byte("{}")), []byte("{}"), api.OK},
		{1, nil, nil, api.OK},
		{2, nil, nil, api.ErrShort},
		{1, long[1:], long[1:], api.OK},
		{1, long, nil, api.ErrLong},
		{2, twice, long[1:], api.OK},
		{2, append(slices.Clone(twice), wrap([]byte("x"))...), nil, api.ErrLong},
	} {
		b, h := laid(base(c.inner, 3-c.inner), nil, c.meta, nil, nil)
		if out, e := Meta(b, h); !bytes.Equal(out, c.out) || e != c.e {
			t.Error(i, len(out), e)
		}
		h.Meta[1]++
		if out, e := Meta(b, h); len(out) > 0 || e != api.ErrRange {
			t.Error(i, e)
		}
	}
	b, h := laid(base(1, 1), nil, []byte("ab"), nil, nil)
	out, _ := Meta(b, h)
	out[0] = 'z'
	if again, _ := Meta(b, h); string(again) != "ab" {
		t.Error("the archive was shared")
	}
}

// chain returns an archive whose tile 0 is found in the directory of that depth.
func chain(t *testing.T, depth int) ([]byte, api.Header) {
	leaf := put(t, entry(0, 0, 3, 1), entry(2, 0, 9, 1))
	leaves := leaf
	for range depth - 2 {
		up := put(t, entry(0, 0, uint64(len(leaf)), 0))
		up = put(t, entry(0, uint64(len(leaves)-len(leaf)), uint64(len(leaf)), 0))
		leaf = up
		leaves = append(leaves, up...)
	}
	root := put(t, entry(0, uint64(len(leaves)-len(leaf)), uint64(len(leaf)), 0))
	return laid(base(1, 1), root, nil, leaves, []byte("abc"))
}

func TestP13_4Find(t *testing.T) {
	for depth := 2; depth <= 6; depth++ {
		b, h := chain(t, depth)
		x, ok, e := Find(b, h, 0)
		d, found, f := Tile(b, h, api.Place{})
		if depth <= 4 && (x != entry(0, 0, 3, 1) || !ok || e != api.OK || string(d) != "abc" || !found || f != api.OK) {
			t.Error(depth, x, ok, e, d, found, f)
		}
		if depth > 4 && (x != (api.Entry{}) || ok || e != api.ErrForm || len(d) > 0 || found || f != api.ErrForm) {
			t.Error(depth, x, ok, e, d, found, f)
		}
		if x, ok, e := Find(b, h, 1); depth <= 4 && (x != (api.Entry{}) || ok || e != api.OK) {
			t.Error(depth, x, ok, e)
		}
	}
	b, h := chain(t, 3)
	h.Leaves[1]--
	if _, ok, e := Find(b, h, 0); ok || e != api.ErrRange {
		t.Error(ok, e)
	}
	b, h = chain(t, 5)
	h.Leaves[1] = 0
	if _, ok, e := Find(b, h, 0); ok || e != api.ErrRange {
		t.Error(ok, e)
	}
	b, h = chain(t, 3)
	h.Leaves[0] = 1<<64 - 1
	if _, ok, e := Find(b, h, 0); ok || e == api.OK {
		t.Error(ok, e)
	}
	h.Root[0] = 1 << 62
	if _, ok, e := Find(b, h, 0); ok || e != api.ErrRange {
		t.Error(ok, e)
	}
	h.Root = [2]uint64{0, 8}
	if _, ok, e := Find(b, h, 0); ok || e != api.ErrShort {
		t.Error(ok, e)
	}
}

func TestP13_4LeavesWrapRound(t *testing.T) {
	leaf := put(t, entry(0, 0, 3, 1))
	root := put(t, entry(0, 200, uint64(len(leaf)), 0))
	b, h := laid(base(1, 1), root, nil, leaf, []byte("abc"))
	h.Leaves = [2]uint64{h.Leaves[0] - 200, 200 + uint64(len(leaf))}
	if x, ok, e := Find(b, h, 0); x != entry(0, 0, 3, 1) || !ok || e != api.OK {
		t.Error(x, ok, e)
	}
}

func TestP13_4Tile(t *testing.T) {
	data := slices.Concat([]byte("plain"), wrap([]byte("packed")))
	z := uint64(len(data) - 5)
	id := hilb.First(3)
	root := put(t, entry(0, 0, 5, 2), entry(id, 5, z, 2), entry(id+2, 5, z+1, 1), entry(id+3, 1000, 1, 1))
	place := func(n uint64) api.Place {
		p, _ := hilb.Of(n)
		return p
	}
	for i, c := range []struct {
		outer, low, high int
		p                api.Place
		out              string
		ok               bool
		e                api.Errno
	}{
		{1, 0, 30, place(0), "plain", true, api.OK},
		{1, 0, 30, place(1), "plain", true, api.OK},
		{1, 0, 30, place(2), "", false, api.OK},
		{2, 0, 30, place(id), "packed", true, api.OK},
		{2, 0, 3, place(id + 1), "packed", true, api.OK},
		{2, 3, 3, place(id + 1), "packed", true, api.OK},
		{2, 4, 30, place(id), "", false, api.OK},
		{2, 0, 2, place(id), "", false, api.OK},
		{2, 0, 30, place(0), "", false, api.ErrShort},
		{2, 0, 30, place(id + 2), "", false, api.ErrRange},
		{2, 0, 30, place(id + 3), "", false, api.ErrRange},
		{1, 0, 30, api.Place{Z: 0, X: 1}, "", false, api.OK},
		{1, -5, 99, api.Place{Z: 31}, "", false, api.OK},
		{1, -5, 99, api.Place{Z: -1}, "", false, api.OK},
	} {
		h := base(1, c.outer)
		h.MinZoom, h.MaxZoom = c.low, c.high
		b, h := laid(h, root, nil, nil, data)
		if d, ok, e := Tile(b, h, c.p); string(d) != c.out || ok != c.ok || e != c.e {
			t.Errorf("%d: %q %v %d", i, d, ok, e)
		}
	}
	b, h := laid(base(1, 1), root, nil, nil, data)
	h.Data[1] = 4
	if d, ok, e := Tile(b, h, place(0)); len(d) > 0 || ok || e != api.ErrRange {
		t.Error(d, ok, e)
	}
	h.Data[1] = 5
	if d, ok, e := Tile(b, h, place(0)); string(d) != "plain" || !ok || e != api.OK {
		t.Error(d, ok, e)
	}
	h.Data[0] = uint64(len(b)) - 2
	if d, ok, e := Tile(b, h, place(0)); len(d) > 0 || ok || e != api.ErrRange {
		t.Error(d, ok, e)
	}
	h.Data[0]++
	b[h.Root[0]] = 0x80
	if d, ok, e := Tile(b, h, place(0)); len(d) > 0 || ok || e == api.OK {
		t.Error(d, ok, e)
	}
}

func TestP13_5OtherBytes(t *testing.T) {
	leaf := put(t, entry(0, 0, 3, 1))
	other := put(t, entry(5, 3, 3, 1))
	root := put(t, entry(0, 0, uint64(len(leaf)), 0), entry(5, uint64(len(leaf)), uint64(len(other)), 0))
	b, h := laid(base(1, 1), root, []byte("{}"), append(slices.Clone(leaf), other...), []byte("abcdef"))
	for _, part := range [][2]uint64{h.Meta, {h.Leaves[0] + uint64(len(leaf)), uint64(len(other))}, {h.Data[0] + 3, 3}} {
		d := slices.Clone(b)
		for i := range part[1] {
			d[part[0]+i] ^= 0xff
		}
		if got, ok, e := Tile(d, h, api.Place{}); string(got) != "abc" || !ok || e != api.OK {
			t.Error(part, got, ok, e)
		}
	}
}
