package value

import (
	"testing"

	"portolan/api"
)

const top = 1<<64 - 1

func text(s string) api.Value          { return api.Value{Kind: api.ValText, Text: s} }
func num(kind int, n uint64) api.Value { return api.Value{Kind: kind, Bits: n} }

func TestP8_1Right(t *testing.T) {
	for _, c := range []struct {
		v  api.Value
		ok bool
	}{
		{text(""), true},
		{text("é\x00"), true},
		{api.Value{Kind: api.ValText, Text: "a", Bits: top}, true},
		{text("\xff"), false},
		{text("\xed\xa0\x80"), false},
		{text("\xc0\x80"), false},
		{num(api.ValFloat, 1<<32-1), true},
		{num(api.ValFloat, 1<<32), false},
		{num(api.ValDouble, top), true},
		{num(api.ValInt, top), true},
		{num(api.ValUint, top), true},
		{num(api.ValSint, top), true},
		{num(api.ValBool, 0), true},
		{num(api.ValBool, 1), true},
		{num(api.ValBool, 2), false},
		{num(api.ValBool, 1<<32), false},
		{api.Value{Kind: api.ValInt, Text: "\xff"}, true},
		{num(0, 0), false},
		{num(8, 0), false},
		{num(-1, 0), false},
	} {
		if Right(c.v) != c.ok {
			t.Error(c)
		}
	}
}

func TestP8_1PlainAndSame(t *testing.T) {
	full := func(kind int) api.Value { return api.Value{Kind: kind, Text: "a", Bits: 5} }
	if Plain(full(api.ValText)) != text("a") {
		t.Error("text")
	}
	for _, kind := range []int{2, 3, 4, 5, 6, 7, 0, 8, -3} {
		if Plain(full(kind)) != num(kind, 5) || !Same(full(kind), num(kind, 5)) || Same(num(kind, 5), num(kind, 6)) {
			t.Error(kind)
		}
	}
	if !Same(text("a"), full(api.ValText)) || Same(text("a"), text("b")) || Same(num(api.ValInt, 1), num(api.ValUint, 1)) {
		t.Error("Same")
	}
}

func TestP8_1Order(t *testing.T) {
	l := []api.Value{num(-1, 9), num(0, 1), text(""), text("a"), text("ab"), text("b"), text("\xff"), num(api.ValFloat, 0), num(api.ValInt, 3), num(api.ValInt, top), num(api.ValUint, 2), num(9, 0), num(9, 1)}
	for i, v := range l {
		for j, w := range l {
			want := 0
			if i < j {
				want = -1
			} else if i > j {
				want = 1
			}
			if Order(v, w) != want {
				t.Error(v, w, Order(v, w))
			}
		}
	}
	a := api.Value{Kind: api.ValInt, Text: "b", Bits: 1}
	if Order(a, api.Value{Kind: api.ValInt, Text: "a", Bits: 1}) != 0 || Order(api.Value{Kind: 1, Bits: 2}, text("")) != 0 {
		t.Error("what is not meaningful")
	}
}

func TestP8_1Kind(t *testing.T) {
	for kind, want := range map[int]string{1: "String", 2: "Number", 3: "Number", 4: "Number", 5: "Number", 6: "Number", 7: "Boolean", 0: "Number", 8: "Number"} {
		if Kind(num(kind, 0)) != want {
			t.Error(kind)
		}
	}
}

var pairs = []struct {
	v api.Value
	b string
}{
	{text("a"), "\x0a\x01a"},
	{text(""), "\x0a\x00"},
	{num(api.ValFloat, 0x3f800000), "\x15\x00\x00\x80\x3f"},
	{num(api.ValDouble, 0x3ff8000000000000), "\x19\x00\x00\x00\x00\x00\x00\xf8\x3f"},
	{num(api.ValInt, top), "\x20\xff\xff\xff\xff\xff\xff\xff\xff\xff\x01"},
	{num(api.ValUint, 300), "\x28\xac\x02"},
	{num(api.ValSint, top), "\x30\x01"},
	{num(api.ValSint, 1<<63), "\x30\xff\xff\xff\xff\xff\xff\xff\xff\xff\x01"},
	{num(api.ValBool, 1), "\x38\x01"},
	{num(api.ValBool, 0), "\x38\x00"},
}

func TestP8_2Put(t *testing.T) {
	for _, p := range pairs {
		if b := Put(p.v); string(b) != p.b {
			t.Errorf("%v: %x", p.v, b)
		}
	}
	for _, v := range []api.Value{num(0, 0), num(8, 1), num(api.ValBool, 2), text("\xff"), num(api.ValFloat, 1<<32)} {
		if b := Put(v); len(b) != 0 {
			t.Errorf("%v: %x", v, b)
		}
	}
}

func TestP8_2Get(t *testing.T) {
	for _, p := range pairs {
		for _, b := range []string{p.b, "\x40\x01" + p.b, p.b + "\xfa\x01\x01x"} {
			if v, e := Get([]byte(b)); v != p.v || e != api.OK {
				t.Errorf("%x: %v %d", b, v, e)
			}
		}
		if v, e := Get([]byte(p.b + p.b)); v != (api.Value{}) || e != api.ErrForm {
			t.Errorf("%x twice: %v %d", p.b, v, e)
		}
		if _, e := Get([]byte(p.b[:len(p.b)-1])); e != api.ErrShort {
			t.Errorf("%x cut: %d", p.b, e)
		}
	}
	for _, c := range []struct {
		b string
		e api.Errno
	}{
		{"", api.ErrForm},
		{"\x40\x01", api.ErrForm},
		{"\x08\x01", api.ErrForm},
		{"\x10\x01", api.ErrForm},
		{"\x1d\x00\x00\x00\x00", api.ErrForm},
		{"\x22\x01a", api.ErrForm},
		{"\x29\x00\x00\x00\x00\x00\x00\x00\x00", api.ErrForm},
		{"\x32\x00", api.ErrForm},
		{"\x3d\x00\x00\x00\x00", api.ErrForm},
		{"\x0a\x01\xff", api.ErrForm},
		{"\x38\x02", api.ErrForm},
		{"\x0a\x01a\x38\x01", api.ErrForm},
		{"\x0f", api.ErrForm},
	} {
		if v, e := Get([]byte(c.b)); v != (api.Value{}) || e != c.e {
			t.Errorf("%x: %v %d", c.b, v, e)
		}
	}
}

func TestP8_3RoundTrip(t *testing.T) {
	for kind := 1; kind <= 7; kind++ {
		for _, n := range []uint64{0, 1, 2, 1<<31 - 1, 1<<32 - 1, 1 << 32, 1<<63 - 1, 1 << 63, top} {
			v := api.Value{Kind: kind, Text: "x", Bits: n}
			if !Right(v) {
				continue
			}
			if w, e := Get(Put(v)); w != Plain(v) || e != api.OK {
				t.Error(v, w, e)
			}
		}
	}
}
