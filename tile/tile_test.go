package tile

import (
	"math/rand"
	"slices"
	"testing"

	"portolan/api"
	"portolan/value"
	"portolan/wire"
)

func text(s string) api.Value  { return api.Value{Kind: api.ValText, Text: s} }
func whole(n uint64) api.Value { return api.Value{Kind: api.ValInt, Bits: n} }
func at(x, y int) [][]api.Pt   { return [][]api.Pt{{{X: x, Y: y}}} }

func sample() []api.Layer {
	return []api.Layer{
		{Name: "a", Extent: 4096, Features: []api.Feature{
			{HasID: true, ID: 7, Type: api.GeoPoint, Paths: at(25, 17), Attrs: []api.Attr{{Key: "k", Val: text("x")}, {Key: "n", Val: whole(1)}}},
			{Type: api.GeoPoint, Paths: at(1, 2), Attrs: []api.Attr{{Key: "n", Val: text("x")}, {Key: "m", Val: whole(1)}}},
		}},
		{Name: "", Extent: 1, Features: []api.Feature{{HasID: true, Type: api.GeoPoint, Paths: at(0, 0)}}},
		{Name: "é", Extent: api.MaxExtent},
		{Name: "shapes", Extent: 64, Features: []api.Feature{
			{Type: api.GeoLine, Paths: [][]api.Pt{{{X: 1, Y: 2}, {X: 3, Y: -4}}, {{}, {}}}, Attrs: []api.Attr{{Key: "one", Val: whole(1)}}},
			{Type: api.GeoPoly, Paths: [][]api.Pt{{{}, {X: 9}, {X: 9, Y: 9}}}},
		}},
	}
}

func with(change func(l []api.Layer)) []api.Layer {
	l := sample()
	change(l)
	return l
}

func TestP10_1Right(t *testing.T) {
	for i, c := range []struct {
		change func(l []api.Layer)
		ok     bool
	}{
		{func(l []api.Layer) {}, true},
		{func(l []api.Layer) { l[1].Name = "\xff" }, false},
		{func(l []api.Layer) { l[2].Name = "a" }, false},
		{func(l []api.Layer) { l[1].Extent = 0 }, false},
		{func(l []api.Layer) { l[1].Extent = -1 }, false},
		{func(l []api.Layer) { l[1].Extent = api.MaxExtent + 1 }, false},
		{func(l []api.Layer) { l[0].Features[1].ID = 1 }, false},
		{func(l []api.Layer) { l[0].Features[0].ID = 1<<64 - 1 }, true},
		{func(l []api.Layer) { l[0].Features[0].Type = 0 }, false},
		{func(l []api.Layer) { l[0].Features[0].Type = api.GeoLine }, false},
		{func(l []api.Layer) { l[0].Features[0].Paths = nil }, false},
		{func(l []api.Layer) { l[0].Features[0].Paths[0][0].X = api.MaxCoord + 1 }, false},
		{func(l []api.Layer) { l[0].Features[0].Attrs[1].Key = "k" }, false},
		{func(l []api.Layer) { l[0].Features[0].Attrs[1].Key = "\xff" }, false},
		{func(l []api.Layer) { l[0].Features[0].Attrs[1].Val.Kind = 0 }, false},
		{func(l []api.Layer) { l[0].Features[0].Attrs[0].Val.Text = "\xff" }, false},
		{func(l []api.Layer) { l[0].Features[0].Attrs = nil }, true},
	} {
		l := with(c.change)
		if Right(l) != c.ok {
			t.Error(i)
		}
		if b, e := Put(l); (e == api.OK) != c.ok || !c.ok && (e != api.ErrForm || len(b) != 0) {
			t.Error(i, e)
		}
	}
	if !Right(nil) {
		t.Error("no layers")
	}
}

func TestP10_1Same(t *testing.T) {
	a := sample()
	for i, c := range []struct {
		change func(l []api.Layer)
		same   bool
	}{
		{func(l []api.Layer) {}, true},
		{func(l []api.Layer) { l[0].Features[0].Attrs[0].Val.Bits = 5 }, true},
		{func(l []api.Layer) { l[0].Features[0].Attrs[0].Val.Text = "y" }, false},
		{func(l []api.Layer) { l[0].Features[0].Attrs[0].Key = "y" }, false},
		{func(l []api.Layer) { l[0].Features[0].Attrs = l[0].Features[0].Attrs[:1] }, false},
		{func(l []api.Layer) { l[0].Name = "b" }, false},
		{func(l []api.Layer) { l[0].Extent++ }, false},
		{func(l []api.Layer) { l[0].Features = l[0].Features[:1] }, false},
		{func(l []api.Layer) { l[1].Features[0].HasID = false }, false},
		{func(l []api.Layer) { l[0].Features[0].ID++ }, false},
		{func(l []api.Layer) { l[0].Features[0].Type++ }, false},
		{func(l []api.Layer) { l[0].Features[0].Paths = at(25, 18) }, false},
		{func(l []api.Layer) { l[2].Features = []api.Feature{} }, true},
	} {
		b := with(c.change)
		if Same(a, b) != c.same || Same(b, a) != c.same {
			t.Error(i)
		}
	}
	if Same(a, a[:2]) || !Same(nil, []api.Layer{}) {
		t.Error("lists")
	}
}

func TestP10_1Find(t *testing.T) {
	l := append(sample(), api.Layer{Name: "a", Extent: 2})
	if x, ok := Find(l, "a"); !ok || !Same([]api.Layer{x}, l[:1]) {
		t.Error(x, ok)
	}
	if x, ok := Find(l, "b"); ok || x.Extent != 0 || len(x.Features) != 0 {
		t.Error(x, ok)
	}
	if x, _ := Find(l, "a"); len(x.Features) == 2 {
		x.Features[0].ID = 99
		if l[0].Features[0].ID != 7 {
			t.Error("the argument was shared")
		}
	}
}

func TestP10_1Dict(t *testing.T) {
	f := []api.Feature{
		{Attrs: []api.Attr{{Key: "b", Val: whole(1)}, {Key: "a", Val: api.Value{Kind: api.ValInt, Text: "y", Bits: 1}}}},
		{Attrs: []api.Attr{{Key: "a", Val: api.Value{Kind: api.ValUint, Bits: 1}}, {Key: "b", Val: api.Value{Kind: api.ValText, Text: "y", Bits: 9}}, {Key: "b", Val: text("y")}}},
	}
	keys, vals := Dict(f)
	if !slices.Equal(keys, []string{"b", "a"}) || !slices.Equal(vals, []api.Value{whole(1), {Kind: api.ValUint, Bits: 1}, text("y")}) {
		t.Error(keys, vals)
	}
	if keys, vals := Dict(nil); len(keys)+len(vals) != 0 {
		t.Error(keys, vals)
	}
}

func TestP10_2Put(t *testing.T) {
	for i, c := range []struct {
		l []api.Layer
		b string
	}{
		{nil, ""},
		{[]api.Layer{{Name: "a", Extent: 4096}}, "\x1a\x08\x0a\x01a\x28\x80\x20\x78\x02"},
		{sample()[:1], "\x1a\x3a\x0a\x01a" +
			"\x12\x0f\x08\x07\x12\x04\x00\x00\x01\x01\x18\x01\x22\x03\x09\x32\x22" +
			"\x12\x0d\x12\x04\x01\x00\x02\x01\x18\x01\x22\x03\x09\x02\x04" +
			"\x1a\x01k\x1a\x01n\x1a\x01m\x22\x03\x0a\x01x\x22\x02\x20\x01\x28\x80\x20\x78\x02"},
		{sample()[1:2], "\x1a\x11\x0a\x00\x12\x09\x08\x00\x18\x01\x22\x03\x09\x00\x00\x28\x01\x78\x02"},
	} {
		if b, e := Put(c.l); string(b) != c.b || e != api.OK {
			t.Errorf("%d: %x %d", i, b, e)
		}
	}
}

func field(num int, data ...byte) api.Field {
	return api.Field{Num: num, Kind: api.KindBytes, Data: data}
}

func number(num int, n uint64) api.Field { return api.Field{Num: num, Int: n} }

func message(l ...api.Field) []byte { return wire.Put(l) }

func TestP10_3Layers(t *testing.T) {
	key, val := field(3, 'k'), field(4, value.Put(whole(5))...)
	feature := field(2, message(number(3, 1), field(4, 9, 50, 34), field(2, 0, 0))...)
	name := field(1, 'a')
	for i, c := range []struct {
		l []api.Field
		e api.Errno
	}{
		{[]api.Field{name, feature, key, val}, api.OK},
		{[]api.Field{val, key, feature, name, number(15, 1), number(5, 300), number(9, 9), number(9, 9)}, api.OK},
		{[]api.Field{feature, key, val}, api.ErrForm},
		{[]api.Field{name, name}, api.ErrForm},
		{[]api.Field{name, number(5, 1), number(5, 1)}, api.ErrForm},
		{[]api.Field{name, number(15, 2), number(15, 2)}, api.ErrForm},
		{[]api.Field{name, number(15, 3)}, api.ErrForm},
		{[]api.Field{name, number(15, 0)}, api.ErrForm},
		{[]api.Field{number(1, 3)}, api.ErrForm},
		{[]api.Field{name, number(2, 3)}, api.ErrForm},
		{[]api.Field{name, number(3, 3)}, api.ErrForm},
		{[]api.Field{name, number(4, 3)}, api.ErrForm},
		{[]api.Field{name, field(5, 1)}, api.ErrForm},
		{[]api.Field{name, field(15, 1)}, api.ErrForm},
		{[]api.Field{name, number(5, 0)}, api.ErrForm},
		{[]api.Field{name, number(5, api.MaxExtent)}, api.OK},
		{[]api.Field{name, number(5, api.MaxExtent+1)}, api.ErrForm},
		{[]api.Field{name, number(5, 1<<63+1)}, api.ErrForm},
		{[]api.Field{field(1, 0xff)}, api.ErrForm},
		{[]api.Field{name, field(4, 0x80)}, api.ErrShort},
		{[]api.Field{name, field(4)}, api.ErrForm},
		{[]api.Field{name, field(2, 0x80), field(4)}, api.ErrForm},
		{[]api.Field{name, field(2, 0x80)}, api.ErrShort},
		{[]api.Field{name, field(2, 0x80), number(15, 7)}, api.ErrForm},
	} {
		l, e := Get(message(field(3, message(c.l...)...)))
		if e != c.e || len(l) > 0 && e != api.OK {
			t.Error(i, l, e)
		}
	}
	extent := func(l ...api.Field) int {
		x, _ := Get(message(field(3, message(l...)...)))
		return x[0].Extent
	}
	if extent(name) != 4096 || extent(name, number(5, 300)) != 300 {
		t.Error("extent")
	}
}

func TestP10_3Tile(t *testing.T) {
	name := message(field(1, 'a'))
	for i, c := range []struct {
		b []byte
		n int
		e api.Errno
	}{
		{nil, 0, api.OK},
		{[]byte{0x80}, 0, api.ErrShort},
		{[]byte{0x0f}, 0, api.ErrForm},
		{message(number(3, 1)), 0, api.ErrForm},
		{message(field(3, 0x80)), 0, api.ErrShort},
		{message(number(1, 1), field(2, 0x80), field(3, name...)), 1, api.OK},
		{message(field(3, name...), field(3, name...)), 0, api.ErrForm},
		{message(field(3, name...), field(3, message(field(1, 'b'))...)), 2, api.OK},
		{message(field(3, name...), field(3), number(3, 1)), 0, api.ErrForm},
	} {
		if l, e := Get(c.b); len(l) != c.n || e != c.e {
			t.Error(i, l, e)
		}
	}
}

func TestP10_3Features(t *testing.T) {
	kind, geo, tags := number(3, 1), field(4, 9, 50, 34), field(2, 1, 0)
	for i, c := range []struct {
		l []api.Field
		e api.Errno
	}{
		{[]api.Field{kind, geo}, api.OK},
		{[]api.Field{geo, tags, kind, number(1, 9), number(7, 1)}, api.OK},
		{[]api.Field{kind, geo, field(2)}, api.OK},
		{[]api.Field{kind, kind, geo}, api.ErrForm},
		{[]api.Field{kind, geo, geo}, api.ErrForm},
		{[]api.Field{kind, geo, tags, tags}, api.ErrForm},
		{[]api.Field{kind, geo, number(1, 9), number(1, 9)}, api.ErrForm},
		{[]api.Field{kind, geo, field(1)}, api.ErrForm},
		{[]api.Field{kind, geo, number(2, 0)}, api.ErrForm},
		{[]api.Field{field(3, 1), geo}, api.ErrForm},
		{[]api.Field{kind, number(4, 9)}, api.ErrForm},
		{[]api.Field{geo}, api.ErrForm},
		{[]api.Field{number(3, 0), geo}, api.ErrForm},
		{[]api.Field{number(3, 4), geo}, api.ErrForm},
		{[]api.Field{number(3, 1<<32+1), geo}, api.ErrForm},
		{[]api.Field{kind}, api.ErrShort},
		{[]api.Field{kind, field(4, 9, 50)}, api.ErrShort},
		{[]api.Field{kind, field(4, 10, 50, 34)}, api.ErrForm},
		{[]api.Field{kind, field(4, 9, 0xfe, 0xff, 0xff, 0x01, 0)}, api.ErrRange},
		{[]api.Field{kind, geo, field(2, 0)}, api.ErrForm},
		{[]api.Field{kind, geo, field(2, 2, 0)}, api.ErrForm},
		{[]api.Field{kind, geo, field(2, 0, 1)}, api.ErrForm},
		{[]api.Field{kind, geo, field(2, 0, 0, 0, 0)}, api.ErrForm},
		{[]api.Field{kind, field(4, 0x80), field(2, 0)}, api.ErrShort},
		{[]api.Field{field(4, 0x80), field(2, 0)}, api.ErrShort},
		{[]api.Field{kind, field(4, 0x80), field(2, 0xff, 0xff, 0xff, 0xff, 0x1f)}, api.ErrForm},
		{[]api.Field{kind, field(4, 9, 50), field(2, 5, 5)}, api.ErrForm},
		{[]api.Field{field(4, 9, 50)}, api.ErrForm},
	} {
		layer := message(field(1, 'a'), field(2, message(c.l...)...), field(3, 'k'), field(3, 'n'), field(4, value.Put(whole(5))...))
		l, e := Get(message(field(3, layer...)))
		if e != c.e || len(l) > 0 && e != api.OK {
			t.Error(i, l, e)
		}
		if i == 1 {
			want := api.Feature{HasID: true, ID: 9, Type: 1, Paths: at(25, 17), Attrs: []api.Attr{{Key: "n", Val: whole(5)}}}
			if !sameFeature(l[0].Features[0], want) {
				t.Error(l)
			}
		}
	}
}

func TestP10_4RoundTrip(t *testing.T) {
	b, _ := Put(sample())
	l, e := Get(b)
	if !Same(l, sample()) || e != api.OK {
		t.Error(l, e)
	}
	rnd := rand.New(rand.NewSource(10))
	good := 0
	for range 20000 {
		d := slices.Clone(b)
		for range 1 + rnd.Intn(3) {
			d[rnd.Intn(len(d))] = byte(rnd.Intn(40))
		}
		l, e := Get(d)
		if e != api.OK {
			continue
		}
		good++
		z, e := Put(l)
		again, f := Get(z)
		y, _ := Put(again)
		if e != api.OK || f != api.OK || !Same(l, again) || !slices.Equal(y, z) {
			t.Fatalf("%x", d)
		}
	}
	if good < 100 {
		t.Error(good)
	}
}
