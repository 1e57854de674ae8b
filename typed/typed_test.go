package typed

import (
	"math"
	"math/rand"
	"strconv"
	"strings"
	"testing"

	"portolan/api"
	"portolan/dec"
	"portolan/float"
)

func text(s string) api.Value    { return api.Value{Kind: api.ValText, Text: s} }
func whole(n int) api.Value      { return api.Value{Kind: api.ValInt, Bits: uint64(n)} }
func double(x float64) api.Value { return api.Value{Kind: api.ValDouble, Bits: math.Float64bits(x)} }

func TestP20_1IsNumber(t *testing.T) {
	for s, want := range map[string]bool{
		"": false, "1": true, "-0": true, "1.5e3": true, "1e5 ": false, " 1": false, "01": false, "1.": false, "1e": false,
		"x": false, "+1": false, "1e9999": false, "1e-1000": true, strings.Repeat("9", 101): false,
	} {
		if IsNumber(s) != want {
			t.Error(s)
		}
	}
}

func TestP20_1Of(t *testing.T) {
	nines := strings.Repeat("9", 101)
	for _, c := range []struct {
		s  string
		v  api.Value
		ok bool
	}{
		{"12", whole(12), true},
		{"-12", whole(-12), true},
		{"0", whole(0), true},
		{"-0", whole(0), true},
		{"1.5", double(1.5), true},
		{"12.0", double(12), true},
		{"1e2", double(100), true},
		{"1E2", double(100), true},
		{"012", text("012"), true},
		{"4611686018427387904", whole(1 << 62), true},
		{"-4611686018427387904", whole(-1 << 62), true},
		{"4611686018427387905", double(1 << 62), true},
		{"100000000000000000000", double(1e20), true},
		{"1e400", text("1e400"), true},
		{"1e2000", text("1e2000"), true},
		{"1e-400", double(0), true},
		{"-1e-400", double(math.Copysign(0, -1)), true},
		{nines, text(nines), true},
		{"a", text("a"), true},
		{" 1", text(" 1"), true},
		{"1 ", text("1 "), true},
		{"true", text("true"), true},
		{"é", text("é"), true},
		{"", api.Value{}, false},
		{"\xff", api.Value{}, false},
		{"1\xff", api.Value{}, false},
	} {
		if v, ok := Of(c.s, false); v != c.v || ok != c.ok {
			t.Error(c, v, ok)
		}
		want := text(c.s)
		if !c.ok {
			want = api.Value{}
		}
		if v, ok := Of(c.s, true); v != want || ok != c.ok {
			t.Error(c, v, ok)
		}
	}
}

func TestP20_2Key(t *testing.T) {
	const top = 1<<64 - 1
	single := func(x float32) api.Value {
		return api.Value{Kind: api.ValFloat, Bits: uint64(math.Float32bits(x))}
	}
	for _, c := range []struct {
		v  api.Value
		s  string
		ok bool
	}{
		{text("a"), "a", true},
		{text(""), "", true},
		{text("\xff"), "", false},
		{whole(-5), "-5", true},
		{whole(-1 << 63), "-9223372036854775808", true},
		{api.Value{Kind: api.ValSint, Bits: top}, "-1", true},
		{api.Value{Kind: api.ValUint, Bits: top}, "18446744073709551615", true},
		{api.Value{Kind: api.ValBool, Bits: 1}, "true", true},
		{api.Value{Kind: api.ValBool}, "false", true},
		{api.Value{Kind: api.ValBool, Bits: 2}, "", false},
		{api.Value{}, "", false},
		{api.Value{Kind: 8}, "", false},
		{double(12), "12", true},
		{double(-3), "-3", true},
		{double(1.5), "", false},
		{double(1 << 60), "", false},
		{double(math.NaN()), "", false},
		{single(12), "12", true},
		{single(-1), "-1", true},
		{single(0), "0", true},
		{single(float32(math.Copysign(0, -1))), "0", true},
		{single(16777217), "16777216", true},
		{single(1 << 53), "9007199254740992", true},
		{single(1 << 54), "", false},
		{single(0.5), "", false},
		{single(1e-45), "", false},
		{single(float32(math.Inf(1))), "", false},
		{single(float32(math.NaN())), "", false},
		{api.Value{Kind: api.ValFloat, Bits: 1 << 32}, "", false},
	} {
		if s, ok := Key(c.v); s != c.s || ok != c.ok {
			t.Error(c, s, ok)
		}
	}
}

func TestP20_2Singles(t *testing.T) {
	rnd := rand.New(rand.NewSource(20))
	for range 20000 {
		n := rnd.Uint32() >> uint(rnd.Intn(3)*11)
		x := math.Float32frombits(n)
		w, ok := widened(uint64(n))
		special := math.IsNaN(float64(x)) || math.IsInf(float64(x), 0)
		if ok == special || ok && w != math.Float64bits(float64(x)) {
			t.Fatalf("%x %x %v", n, w, ok)
		}
		if s, ok := Key(api.Value{Kind: api.ValFloat, Bits: uint64(n)}); !special {
			if want, is := float.Text(math.Float64bits(float64(x))); s != want || ok != is {
				t.Fatalf("%x", n)
			}
		}
	}
}

func TestP20_3Keys(t *testing.T) {
	rnd := rand.New(rand.NewSource(21))
	for i := range 5000 {
		n := rnd.Intn(1<<53+1) >> uint(rnd.Intn(50)) * (1 - 2*rnd.Intn(2))
		if i < 2 {
			n = 1 << 53 * (1 - 2*i)
		}
		s := strconv.Itoa(n)
		v, _ := Of(s, false)
		b, _ := float.Bits(dec.Of(n, 0))
		for _, w := range []api.Value{v, whole(n), {Kind: api.ValDouble, Bits: b}, {Kind: api.ValSint, Bits: uint64(n)}} {
			if key, ok := Key(w); key != s || !ok {
				t.Fatal(n, w, key)
			}
		}
		if key, _ := Key(api.Value{Kind: api.ValUint, Bits: uint64(n)}); n >= 0 && key != s {
			t.Fatal(n, key)
		}
	}
}
