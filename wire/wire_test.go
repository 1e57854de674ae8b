package wire

import (
	"bytes"
	"encoding/binary"
	"math/rand"
	"slices"
	"testing"

	"portolan/api"
)

const top = 1<<64 - 1

func TestP7_1PutVarint(t *testing.T) {
	for _, v := range []uint64{0, 1, 127, 128, 300, 16383, 16384, 1<<32 - 1, 1 << 32, 1<<63 - 1, 1 << 63, top} {
		if b := PutVarint([]byte("x"), v); !bytes.Equal(b, binary.AppendUvarint([]byte("x"), v)) {
			t.Errorf("%d: %x", v, b)
		}
	}
	if b := PutVarint(nil, 300); string(b) != "\xac\x02" {
		t.Errorf("%x", b)
	}
	room := append(make([]byte, 0, 8), 'a')
	PutVarint(room, 1)
	if b := room[:2]; b[1] != 0 {
		t.Error("the argument's room was written to")
	}
}

func TestP7_1Varint(t *testing.T) {
	for _, c := range []struct {
		b    string
		at   int
		v    uint64
		next int
		e    api.Errno
	}{
		{"\x00", 0, 0, 1, api.OK},
		{"\xac\x02", 0, 300, 2, api.OK},
		{"x\xac\x02y", 1, 300, 3, api.OK},
		{"\x80\x80\x00", 0, 0, 3, api.OK},
		{"\xff\xff\xff\xff\xff\xff\xff\xff\xff\x01", 0, top, 10, api.OK},
		{"\x80\x80\x80\x80\x80\x80\x80\x80\x80\x00", 0, 0, 10, api.OK},
		{"\xff\xff\xff\xff\xff\xff\xff\xff\xff\x02", 0, 0, 0, api.ErrForm},
		{"\xff\xff\xff\xff\xff\xff\xff\xff\xff\x80", 0, 0, 0, api.ErrForm},
		{"\xff\xff\xff\xff\xff\xff\xff\xff\xff", 0, 0, 0, api.ErrShort},
		{"\x80", 0, 0, 0, api.ErrShort},
		{"", 0, 0, 0, api.ErrShort},
		{"a", 1, 0, 0, api.ErrShort},
		{"a", 2, 0, 0, api.ErrRange},
		{"a", -1, 0, 0, api.ErrRange},
		{"a", -1 << 63, 0, 0, api.ErrRange},
		{"a", 1<<63 - 1, 0, 0, api.ErrRange},
	} {
		if v, next, e := Varint([]byte(c.b), c.at); v != c.v || next != c.next || e != c.e {
			t.Error(c, v, next, e)
		}
	}
}

func TestP7_1ZigZag(t *testing.T) {
	for n, v := range map[int]uint64{0: 0, -1: 1, 1: 2, -2: 3, 2: 4, 1<<63 - 1: top - 1, -1 << 63: top, 25: 50} {
		if Zig(n) != v || Zag(v) != n {
			t.Error(n, v, Zig(n), Zag(v))
		}
	}
}

func TestP7_2Get(t *testing.T) {
	for _, c := range []struct {
		b string
		l []api.Field
		e api.Errno
	}{
		{"", nil, api.OK},
		{"\x1a\x02ab", []api.Field{{Num: 3, Kind: api.KindBytes, Data: []byte("ab")}}, api.OK},
		{"\x08\xac\x02", []api.Field{{Num: 1, Int: 300}}, api.OK},
		{"\x0d\x01\x02\x03\x84", []api.Field{{Num: 1, Kind: api.Kind32, Int: 0x84030201}}, api.OK},
		{"\x09\x01\x02\x03\x04\x05\x06\x07\x88\x0a\x00", []api.Field{{Num: 1, Kind: api.Kind64, Int: 0x8807060504030201}, {Num: 1, Kind: api.KindBytes}}, api.OK},
		{"\xf8\xff\xff\xff\x0f\x07", []api.Field{{Num: api.MaxField, Int: 7}}, api.OK},
		{"\x80\x80\x80\x80\x10\x07", nil, api.ErrForm},
		{"\x80\x80\x80\x80\x10", nil, api.ErrForm},
		{"\x00\x00", nil, api.ErrForm},
		{"\x0b", nil, api.ErrForm},
		{"\x0c", nil, api.ErrForm},
		{"\x0e", nil, api.ErrForm},
		{"\x0f", nil, api.ErrForm},
		{"\x80", nil, api.ErrShort},
		{"\x08", nil, api.ErrShort},
		{"\x0d\x01\x02\x03", nil, api.ErrShort},
		{"\x09\x01\x02\x03\x04\x05\x06\x07", nil, api.ErrShort},
		{"\x0a", nil, api.ErrShort},
		{"\x0a\x02a", nil, api.ErrShort},
		{"\x0a\xff\xff\xff\xff\xff\xff\xff\xff\xff\x01a", nil, api.ErrShort},
		{"\x0a\xff\xff\xff\xff\xff\xff\xff\xff\xff\x02a", nil, api.ErrForm},
		{"\x08\x01\x0f", nil, api.ErrForm},
	} {
		if l, e := Get([]byte(c.b)); !Same(l, c.l) || e != c.e {
			t.Errorf("%x: %v %d", c.b, l, e)
		}
	}
}

func TestP7_2GetIsNew(t *testing.T) {
	b := []byte("\x0a\x01a\x0a\x01b")
	l, _ := Get(b)
	b[2] = 'z'
	_ = append(l[0].Data, "overwritten"...)
	if string(l[0].Data) != "a" || string(l[1].Data) != "b" || string(b) != "\x0a\x01z\x0a\x01b" {
		t.Error(l, b)
	}
}

func TestP7_2Put(t *testing.T) {
	for _, c := range []struct {
		f api.Field
		b string
	}{
		{api.Field{Num: 3, Kind: api.KindBytes, Data: []byte("ab")}, "\x1a\x02ab"},
		{api.Field{Num: 1, Int: 300, Data: []byte("x")}, "\x08\xac\x02"},
		{api.Field{Num: 1, Kind: api.Kind32, Int: 0x184030201}, "\x0d\x01\x02\x03\x84"},
		{api.Field{Num: 2, Kind: api.Kind64, Int: 1 << 63}, "\x11\x00\x00\x00\x00\x00\x00\x00\x80"},
		{api.Field{Num: 1<<29 + 1, Int: 1}, "\x08\x01"},
		{api.Field{Num: -1, Int: 1}, "\xf8\xff\xff\xff\x0f\x01"},
		{api.Field{Num: 0, Int: 1}, "\x00\x01"},
		{api.Field{Num: 1, Kind: 3, Int: 1}, ""},
		{api.Field{Num: 1, Kind: 4}, ""},
		{api.Field{Num: 1, Kind: -1}, ""},
		{api.Field{Num: 1, Kind: 8}, ""},
	} {
		if b := Put([]api.Field{c.f, c.f}); string(b) != c.b+c.b {
			t.Errorf("%v: %x", c.f, b)
		}
	}
	if len(Put(nil)) != 0 {
		t.Error("nothing")
	}
}

func TestP7_2Same(t *testing.T) {
	f := []api.Field{{Num: 1, Int: 2}}
	for i, c := range []struct {
		l    []api.Field
		same bool
	}{
		{[]api.Field{{Num: 1, Int: 2, Data: []byte("x")}}, true},
		{[]api.Field{{Num: 2, Int: 2}}, false},
		{[]api.Field{{Num: 1, Kind: 1, Int: 2}}, false},
		{[]api.Field{{Num: 1, Int: 3}}, false},
		{nil, false},
		{[]api.Field{{Num: 1, Int: 2}, {Num: 1, Int: 2}}, false},
	} {
		if Same(f, c.l) != c.same || Same(c.l, f) != c.same {
			t.Error(i)
		}
	}
	a := []api.Field{{Num: 1, Kind: api.KindBytes, Int: 1, Data: []byte{}}}
	if !Same(a, []api.Field{{Num: 1, Kind: api.KindBytes}}) || Same(a, []api.Field{{Num: 1, Kind: api.KindBytes, Data: []byte("a")}}) {
		t.Error("bytes")
	}
	odd := []api.Field{{Kind: 9, Int: 1, Data: []byte("a")}}
	if !Same(odd, []api.Field{{Kind: 9, Int: 1}}) || Same(odd, []api.Field{{Kind: 9, Data: []byte("a")}}) || !Same(nil, []api.Field{}) {
		t.Error("other kinds")
	}
}

func TestP7_3Packed(t *testing.T) {
	l := []uint32{9, 50, 34, 0, 300, 1<<32 - 1}
	b := Pack(l)
	if string(b) != "\x09\x32\x22\x00\xac\x02\xff\xff\xff\xff\x0f" || len(Pack(nil)) != 0 {
		t.Errorf("%x", b)
	}
	if m, e := Unpack(b); !slices.Equal(l, m) || e != api.OK {
		t.Error(m, e)
	}
	for s, want := range map[string]api.Errno{
		"":                         api.OK,
		"\x80\x00":                 api.OK,
		"\x01\x80\x80\x80\x80\x10": api.ErrForm,
		"\x01\x80":                 api.ErrShort,
		"\xff\xff\xff\xff\xff\xff\xff\xff\xff\x02": api.ErrForm,
		"\x80\x80\x80\x80\x10\x80":                 api.ErrForm,
	} {
		if l, e := Unpack([]byte(s)); e != want || e != api.OK && len(l) != 0 {
			t.Errorf("%x: %v %d", s, l, e)
		}
	}
}

func TestP7_4RoundTrip(t *testing.T) {
	rnd := rand.New(rand.NewSource(7))
	kinds := []int{api.KindVar, api.Kind64, api.KindBytes, api.Kind32}
	for range 500 {
		var l []api.Field
		for range rnd.Intn(6) {
			f := api.Field{Num: 1 + rnd.Intn(api.MaxField), Kind: kinds[rnd.Intn(4)], Int: rnd.Uint64() >> rnd.Intn(64)}
			if f.Kind == api.Kind32 {
				f.Int %= 1 << 32
			}
			if f.Kind == api.KindBytes {
				f.Data = make([]byte, rnd.Intn(200))
				rnd.Read(f.Data)
			}
			l = append(l, f)
		}
		if m, e := Get(Put(l)); !Same(l, m) || e != api.OK {
			t.Fatal(l, m, e)
		}
	}
	for range 20000 {
		b := make([]byte, rnd.Intn(9))
		rnd.Read(b)
		if l, e := Get(b); e == api.OK && len(Put(l)) > len(b) {
			t.Fatalf("%x", b)
		}
	}
	if l, _ := Get([]byte("\x88\x00\x81\x00")); !bytes.Equal(Put(l), []byte("\x08\x01")) {
		t.Error(l)
	}
}
