package float

import (
	"math"
	"math/big"
	"math/rand"
	"strconv"
	"strings"
	"testing"

	"portolan/api"
	"portolan/dec"
)

func num(t *testing.T, s string) api.Dec {
	d, n, e := dec.Parse(s)
	if e != api.OK || n != len(s) {
		t.Fatal(s, n, e)
	}
	return d
}

func text(d api.Dec) string {
	if d.Digits == "" {
		return "0"
	}
	s := d.Digits + "e" + strconv.Itoa(d.Exp)
	if d.Neg {
		s = "-" + s
	}
	return s
}

func TestP19_1Parts(t *testing.T) {
	for _, c := range []struct {
		bits uint64
		neg  bool
		m    uint64
		exp  int
		ok   bool
	}{
		{0, false, 0, -1074, true},
		{1 << 63, true, 0, -1074, true},
		{1, false, 1, -1074, true},
		{1<<52 - 1, false, 1<<52 - 1, -1074, true},
		{1 << 52, false, 1 << 52, -1074, true},
		{0x3ff0000000000000, false, 1 << 52, -52, true},
		{0xc000000000000001, true, 1<<52 + 1, -51, true},
		{0x7fefffffffffffff, false, 1<<53 - 1, 971, true},
		{0x7ff0000000000000, false, 0, 0, false},
		{0xfff0000000000000, false, 0, 0, false},
		{0x7ff8000000000001, false, 0, 0, false},
		{1<<64 - 1, false, 0, 0, false},
	} {
		if neg, m, exp, ok := Parts(c.bits); neg != c.neg || m != c.m || exp != c.exp || ok != c.ok {
			t.Error(c, neg, m, exp, ok)
		}
	}
}

func TestP19_1Cmp(t *testing.T) {
	for _, c := range []struct {
		s    string
		m    uint64
		exp  int
		want int
	}{
		{"0", 0, 0, 0}, {"0", 1, -2000, -1}, {"1", 0, 2000, 1}, {"1", 1, 0, 0}, {"-1", 1, 0, 0}, {"-5", 1, 2, 1},
		{"0.5", 1, -1, 0}, {"0.1", 0x1999999999999a, -56, -1}, {"0.1", 0x19999999999999, -56, 1},
		{"18446744073709551615", 1<<64 - 1, 0, 0}, {"18446744073709551616", 1 << 63, 1, 0}, {"18446744073709551617", 1 << 63, 1, 1},
		{"1e1000", 1, 2000, 1}, {"1e1000", 1<<64 - 1, 2000, 1}, {"1e600", 1, 2000, -1}, {"1e-1000", 1, -2000, -1}, {"1e-700", 1, -2000, -1},
	} {
		if n := Cmp(num(t, c.s), c.m, c.exp); n != c.want {
			t.Error(c, n)
		}
	}
	if Cmp(api.Dec{Digits: "10"}, 1, 0) != 0 || Cmp(num(t, "9"), 1, 2001) != 0 || Cmp(num(t, "9"), 1, -2001) != 0 || Cmp(num(t, "9"), 1, -1<<63) != 0 {
		t.Error("not valid")
	}
	rnd := rand.New(rand.NewSource(19))
	for range 2000 {
		d := dec.Of(rnd.Int(), rnd.Intn(60)-40)
		m, exp := rnd.Uint64(), rnd.Intn(200)-100
		x, _ := new(big.Rat).SetString(text(d))
		y := new(big.Rat).SetInt(new(big.Int).SetUint64(m))
		two := new(big.Rat).SetInt(new(big.Int).Lsh(big.NewInt(1), uint(max(exp, -exp))))
		if exp < 0 {
			two.Inv(two)
		}
		if Cmp(d, m, exp) != x.Cmp(y.Mul(y, two)) {
			t.Fatal(d, m, exp)
		}
	}
}

func TestP19_2Bits(t *testing.T) {
	half := new(big.Int).Sub(new(big.Int).Lsh(big.NewInt(1), 1024), new(big.Int).Lsh(big.NewInt(1), 970))
	for _, c := range []struct {
		s    string
		bits uint64
	}{
		{"0", 0},
		{"1", 0x3ff0000000000000},
		{"0.1", 0x3fb999999999999a},
		{"-0.1", 0xbfb999999999999a},
		{"9007199254740992", 0x4340000000000000},
		{"9007199254740993", 0x4340000000000000},
		{"9007199254740995", 0x4340000000000002},
		{"9007199254740993.0000000000001", 0x4340000000000001},
		{"9007199254740991.5", 0x4340000000000000},
		{"9007199254740990.5", 0x433ffffffffffffe},
		{"1.7976931348623157e308", 0x7fefffffffffffff},
		{"-1.7976931348623158e308", 0xffefffffffffffff},
		{"4.9e-324", 1},
		{"5e-324", 1},
		{"2.4703282292062328e-324", 1},
		{"2.4703282292062327e-324", 0},
		{"-1e-1000", 1 << 63},
		{"2.2250738585072014e-308", 1 << 52},
		{"2.2250738585072011e-308", 1<<52 - 1},
		{"2.2250738585072012e-308", 1 << 52},
		{"7.4e-324", 1},
		{"7.5e-324", 2},
	} {
		if v, e := Bits(num(t, c.s)); v != c.bits || e != api.OK {
			t.Errorf("%s: %x %d", c.s, v, e)
		}
	}
	for i, d := range []api.Dec{num(t, "1.7976931348623159e308"), num(t, "-1.8e308"), num(t, "1e1000"), num(t, "1e309")} {
		if v, e := Bits(d); v != 0 || e != api.ErrRange {
			t.Error(i, v, e)
		}
	}
	// the limit has too many digits for a decimal: its neighbors of 100 digits stand for it
	below := half.String()[:100]
	above := new(big.Int)
	above.SetString(below, 10)
	above.Add(above, big.NewInt(1))
	zeros := "e" + strconv.Itoa(len(half.String())-100)
	if v, e := Bits(num(t, below+zeros)); v != 0x7fefffffffffffff || e != api.OK {
		t.Error(v, e)
	}
	if v, e := Bits(num(t, above.String()+zeros)); v != 0 || e != api.ErrRange {
		t.Error(v, e)
	}
	for _, d := range []api.Dec{{Neg: true}, {Digits: "10"}, {Digits: "1", Exp: 1001}} {
		if v, e := Bits(d); v != 0 || e != api.ErrArg {
			t.Error(d, v, e)
		}
	}
}

func TestP19_2Library(t *testing.T) {
	rnd := rand.New(rand.NewSource(20))
	check := func(d api.Dec) {
		want, err := strconv.ParseFloat(text(d), 64)
		v, e := Bits(d)
		if err == nil && (v != math.Float64bits(want) || e != api.OK) || err != nil && (v != 0 || e != api.ErrRange) {
			t.Fatal(d, v, e, want, err)
		}
	}
	for range 20000 {
		check(dec.Of(rnd.Int()>>uint(rnd.Intn(60))-rnd.Intn(2), rnd.Intn(700)-370))
		x := math.Float64frombits(rnd.Uint64())
		if rnd.Intn(3) == 0 {
			x = math.Float64frombits(rnd.Uint64() >> uint(10+rnd.Intn(50)))
		}
		if math.IsNaN(x) || math.IsInf(x, 0) || x == 0 {
			continue
		}
		d, _, e := dec.Parse(strconv.FormatFloat(x, 'e', -1, 64))
		if e != api.OK {
			t.Fatal(x)
		}
		check(d)
		// halfway between two numbers
		y := new(big.Float).SetPrec(200).Add(big.NewFloat(x), big.NewFloat(math.Nextafter(x, 0)))
		s := y.Quo(y, big.NewFloat(2)).Text('e', 99)
		if d, _, e := dec.Parse(s); e == api.OK {
			check(d)
		}
	}
}

func TestP19_2Text(t *testing.T) {
	for _, c := range []struct {
		x  float64
		s  string
		ok bool
	}{
		{0, "0", true},
		{math.Copysign(0, -1), "0", true},
		{1, "1", true},
		{-12, "-12", true},
		{1.5, "", false},
		{0.5, "", false},
		{-0.25, "", false},
		{1e15, "1000000000000000", true},
		{1 << 53, "9007199254740992", true},
		{-1 << 53, "-9007199254740992", true},
		{1<<53 - 1, "9007199254740991", true},
		{1<<53 + 2, "", false},
		{1 << 54, "", false},
		{1e300, "", false},
		{5e-324, "", false},
		{1e-300, "", false},
		{1<<52 + 0.5, "", true},
		{math.Inf(1), "", false},
		{math.NaN(), "", false},
	} {
		if c.s == "" && c.ok {
			c.s = "4503599627370496"
		}
		if s, ok := Text(math.Float64bits(c.x)); s != c.s || ok != c.ok {
			t.Error(c, s, ok)
		}
	}
}

func TestP19_3Order(t *testing.T) {
	rnd := rand.New(rand.NewSource(21))
	for range 5000 {
		a := dec.Of(rnd.Intn(2000)-1000, rnd.Intn(5)-20)
		b := dec.Of(rnd.Intn(2000)-1000, rnd.Intn(5)-20)
		x, _ := Bits(a)
		y, _ := Bits(b)
		if dec.Order(a, b) < 0 && math.Float64frombits(x) > math.Float64frombits(y) {
			t.Fatal(a, b)
		}
		n := rnd.Intn(1<<53+1) * (1 - 2*rnd.Intn(2))
		v, _ := Bits(dec.Of(n, 0))
		if s, ok := Text(v); s != strconv.Itoa(n) || !ok || strings.Contains(s, "e") {
			t.Fatal(n, s, ok)
		}
	}
}
