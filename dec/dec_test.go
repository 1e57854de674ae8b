package dec

import (
	"math/big"
	"math/rand"
	"strconv"
	"strings"
	"testing"

	"portolan/api"
)

func num(digits string, exp int) api.Dec {
	if digits[0] == '-' {
		return api.Dec{Neg: true, Digits: digits[1:], Exp: exp}
	}
	return api.Dec{Digits: digits, Exp: exp}
}

func TestP16_1Right(t *testing.T) {
	nines := strings.Repeat("9", 100)
	for _, c := range []struct {
		d  api.Dec
		ok bool
	}{
		{api.Dec{}, true},
		{api.Dec{Neg: true}, false},
		{api.Dec{Exp: 1}, false},
		{num("1", 0), true},
		{num("-105", 1000), true},
		{num("5", -1000), true},
		{num("5", 1001), false},
		{num("5", -1001), false},
		{num("05", 0), false},
		{num("50", 0), false},
		{num("0", 0), false},
		{num("1a2", 0), false},
		{num("1.2", 0), false},
		{num("1/2", 0), false},
		{num("1:2", 0), false},
		{num(nines, 0), true},
		{num(nines+"9", 0), false},
	} {
		if Right(c.d) != c.ok {
			t.Error(c)
		}
		if !c.ok && (Text(c.d) != "" || Order(c.d, num("1", 0)) != 0 || Order(num("-1", 0), c.d) != 0) {
			t.Error(c)
		}
	}
}

func TestP16_1Of(t *testing.T) {
	for _, c := range []struct {
		n, exp int
		d      api.Dec
	}{
		{0, 0, api.Dec{}},
		{0, 99999, api.Dec{}},
		{1, 0, num("1", 0)},
		{-1200, 3, num("-12", 5)},
		{-1800000000, -7, num("-18", 1)},
		{1<<63 - 1, 0, num("9223372036854775807", 0)},
		{-1 << 63, 0, num("-9223372036854775808", 0)},
		{1, 1000, num("1", 1000)},
		{10, 1000, api.Dec{}},
		{10, 999, num("1", 1000)},
		{1, 1001, api.Dec{}},
		{1, -1000, num("1", -1000)},
		{1, -1001, api.Dec{}},
		{10, -1001, num("1", -1000)},
		{10, 1<<63 - 1, api.Dec{}},
		{1000, -1 << 63, api.Dec{}},
	} {
		if d := Of(c.n, c.exp); d != c.d {
			t.Error(c, d)
		}
	}
}

func TestP16_1Order(t *testing.T) {
	l := []api.Dec{num("-1", 1000), num("-13", 0), num("-123", -1), num("-12", 0), num("-1", 0), num("-1", -1000), {},
		num("1", -1000), num("9", -2), num("1", -1), num("101", -3), num("11", -2), num("1", 0), num("12", 0), num("123", -1), num("13", 0), num("2", 1), num("1", 2), num("1", 1000)}
	for i, a := range l {
		for j, b := range l {
			want := 0
			if i < j {
				want = -1
			} else if i > j {
				want = 1
			}
			if Order(a, b) != want {
				t.Error(a, b, Order(a, b))
			}
		}
	}
}

func TestP16_2Parse(t *testing.T) {
	zeros := strings.Repeat("0", 2000)
	nines := strings.Repeat("9", 100)
	for _, c := range []struct {
		s string
		d api.Dec
		n int
		e api.Errno
	}{
		{"-12.50e1x", num("-125", 0), 8, api.OK},
		{"0", api.Dec{}, 1, api.OK},
		{"-0", api.Dec{}, 2, api.OK},
		{"-0.00e5", api.Dec{}, 7, api.OK},
		{"0e99999999999999999999", api.Dec{}, 22, api.OK},
		{"1", num("1", 0), 1, api.OK},
		{"01", api.Dec{}, 1, api.OK},
		{"120", num("12", 1), 3, api.OK},
		{"1.", num("1", 0), 1, api.OK},
		{"1.x", num("1", 0), 1, api.OK},
		{"1.5.5", num("15", -1), 3, api.OK},
		{"0.05", num("5", -2), 4, api.OK},
		{"1e", num("1", 0), 1, api.OK},
		{"1e+", num("1", 0), 1, api.OK},
		{"1E-x", num("1", 0), 1, api.OK},
		{"1.e5", num("1", 0), 1, api.OK},
		{"1e5e5", num("1", 5), 3, api.OK},
		{"1E+05", num("1", 5), 5, api.OK},
		{"1e-007", num("1", -7), 6, api.OK},
		{"1.0e0", num("1", 0), 5, api.OK},
		{"1e1000", num("1", 1000), 6, api.OK},
		{"1e1001", api.Dec{}, 0, api.ErrRange},
		{"10e1000", api.Dec{}, 0, api.ErrRange},
		{"0.1e1001", num("1", 1000), 8, api.OK},
		{"1e-1000", num("1", -1000), 7, api.OK},
		{"1e-1001", api.Dec{}, 0, api.ErrRange},
		{"1e99999999999999999999", api.Dec{}, 0, api.ErrRange},
		{"1e-99999999999999999999", api.Dec{}, 0, api.ErrRange},
		{"1e18446744073709551617", api.Dec{}, 0, api.ErrRange},
		{"1" + zeros, api.Dec{}, 0, api.ErrRange},
		{"1" + zeros + "e-2000", num("1", 0), 2007, api.OK},
		{"0." + zeros + "1e2001", num("1", 0), 2008, api.OK},
		{nines, num(nines, 0), 100, api.OK},
		{"0.000" + nines + "000", num(nines, -103), 108, api.OK},
		{nines + "9", api.Dec{}, 0, api.ErrLong},
		{nines + "9e5000", api.Dec{}, 0, api.ErrLong},
		{nines + "0", num(nines, 1), 101, api.OK},
		{nines + "01", api.Dec{}, 0, api.ErrLong},
		{"", api.Dec{}, 0, api.ErrForm},
		{"-", api.Dec{}, 0, api.ErrForm},
		{"+1", api.Dec{}, 0, api.ErrForm},
		{".5", api.Dec{}, 0, api.ErrForm},
		{"-.5", api.Dec{}, 0, api.ErrForm},
		{"e5", api.Dec{}, 0, api.ErrForm},
		{" 1", api.Dec{}, 0, api.ErrForm},
		{"--1", api.Dec{}, 0, api.ErrForm},
		{"x", api.Dec{}, 0, api.ErrForm},
	} {
		if d, n, e := Parse(c.s); d != c.d || n != c.n || e != c.e {
			t.Errorf("%.20s: %v %d %d", c.s, d, n, e)
		}
	}
}

func TestP16_3Text(t *testing.T) {
	for _, c := range []struct {
		d api.Dec
		s string
	}{
		{api.Dec{}, "0"},
		{num("1", 0), "1"},
		{num("-12", 3), "-12000"},
		{num("1", 20), "100000000000000000000"},
		{num("1", 21), "1e21"},
		{num("12", 19), "120000000000000000000"},
		{num("12", 20), "1.2e21"},
		{num("-125", -1), "-12.5"},
		{num("125", -2), "1.25"},
		{num("125", -3), "0.125"},
		{num("125", -9), "0.000000125"},
		{num("125", -10), "1.25e-8"},
		{num("1", -6), "0.000001"},
		{num("1", -7), "0.0000001"},
		{num("1", -8), "1e-8"},
		{num("-1", -1000), "-1e-1000"},
		{num("1", 1000), "1e1000"},
		{num("1234567890123456789012345", -2), "12345678901234567890123.45"},
		{num("1234567890123456789012345", 0), "1.234567890123456789012345e24"},
	} {
		if Text(c.d) != c.s {
			t.Error(c, Text(c.d))
		}
	}
}

func TestP16_3Int(t *testing.T) {
	for _, c := range []struct {
		d  api.Dec
		n  int
		ok bool
	}{
		{api.Dec{}, 0, true},
		{num("12", 3), 12000, true},
		{num("-7", 0), -7, true},
		{num("15", -1), 0, false},
		{num("4611686018427387904", 0), 1 << 62, true},
		{num("-4611686018427387904", 0), -1 << 62, true},
		{num("4611686018427387905", 0), 0, false},
		{num("-4611686018427387905", 0), 0, false},
		{num("1", 18), 1000000000000000000, true},
		{num("1", 19), 0, false},
		{num("9999999999999999999", 0), 0, false},
		{num("18446744073709551617", 0), 0, false},
		{num("1", 1000), 0, false},
		{num("10", 0), 0, false},
		{api.Dec{Neg: true}, 0, false},
	} {
		if n, ok := Int(c.d); n != c.n || ok != c.ok {
			t.Error(c, n, ok)
		}
	}
}

func TestP16_4RoundTrip(t *testing.T) {
	rnd := rand.New(rand.NewSource(16))
	for range 5000 {
		digits := strings.Trim(strconv.Itoa(rnd.Int())+strconv.Itoa(rnd.Int()), "0")
		d := api.Dec{Neg: rnd.Intn(2) == 0, Digits: digits[:1], Exp: rnd.Intn(60) - 30}
		if rnd.Intn(3) > 0 {
			d.Digits = strings.TrimRight(digits[:1+rnd.Intn(len(digits))], "0")
		}
		if rnd.Intn(4) == 0 {
			d.Exp = rnd.Intn(2001) - 1000
		}
		s := Text(d)
		if got, n, e := Parse(s + "x"); got != d || n != len(s) || e != api.OK {
			t.Fatal(d, s, got, n, e)
		}
		x, _ := new(big.Rat).SetString(s)
		y, ok := new(big.Rat).SetString(d.Digits + "e" + strconv.Itoa(d.Exp))
		if !ok || x.Abs(x).Cmp(y) != 0 {
			t.Fatal(d, s)
		}
	}
}
