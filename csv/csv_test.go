package csv

import (
	stdcsv "encoding/csv"
	"math/rand"
	"strings"
	"testing"

	"portolan/api"
)

type rows = [][]string

func TestP18_1Parse(t *testing.T) {
	for s, want := range map[string]rows{
		"":                                 nil,
		"a,b\r\n1,\"x,\"\"y\"\r\n":         {{"a", "b"}, {"1", `x,"y`}},
		"a\nb":                             {{"a"}, {"b"}},
		"a\nb\n":                           {{"a"}, {"b"}},
		"\n":                               {{""}},
		"\r\n":                             {{""}},
		"a\n\nb":                           {{"a"}, {""}, {"b"}},
		",\n,":                             {{"", ""}, {"", ""}},
		"a,":                               {{"a", ""}},
		"\"\"":                             {{""}},
		"\"\"\"\"":                         {{`"`}},
		"\"a\r\nb\",\"c\rd\"\n\"\n\",\"\"": {{"a\r\nb", "c\rd"}, {"\n", ""}},
		"\"a\"\r\n\"b\"":                   {{"a"}, {"b"}},
		" a , b ":                          {{" a ", " b "}},
		"\xff,\x00":                        {{"\xff", "\x00"}},
	} {
		if got, at, e := Parse(s); !Same(got, want) || at != len(s) || e != api.OK {
			t.Errorf("%q: %q %d %d", s, got, at, e)
		}
	}
}

func TestP18_1Errors(t *testing.T) {
	most := strings.Repeat("\n", api.MaxRows)
	for _, c := range []struct {
		s  string
		at int
		e  api.Errno
	}{
		{"a,\"b", 4, api.ErrShort},
		{"\"", 1, api.ErrShort},
		{"\"a\"\"", 4, api.ErrShort},
		{"\"a\"b", 3, api.ErrForm},
		{"\"a\" ,b", 3, api.ErrForm},
		{"\"a\"\rb", 3, api.ErrForm},
		{"\"a\"\r", 3, api.ErrForm},
		{"a\"b", 1, api.ErrForm},
		{"x,a\"b", 3, api.ErrForm},
		{" \"b\"", 1, api.ErrForm},
		{"a\rb", 1, api.ErrForm},
		{"a\r", 1, api.ErrForm},
		{"a\r\r\n", 1, api.ErrForm},
		{"\r", 0, api.ErrForm},
		{"a,b\nc\n", 4, api.ErrForm},
		{"a,b\nc\nd\"", 4, api.ErrForm},
		{"a,b\n\nc,d", 4, api.ErrForm},
		{"a\nb,c\"d", 5, api.ErrForm},
		{"a\nb,c", 2, api.ErrForm},
		{"a,b\nc,d,\"e", 10, api.ErrShort},
		{most + "x", api.MaxRows, api.ErrMany},
		{most + "\"", api.MaxRows, api.ErrMany},
		{strings.Repeat("a", api.MaxData+1), 0, api.ErrLong},
		{strings.Repeat("\"", api.MaxData+1), 0, api.ErrLong},
	} {
		if got, at, e := Parse(c.s); len(got) > 0 || at != c.at || e != c.e {
			t.Errorf("%.20q: %d %d", c.s, at, e)
		}
	}
	for _, s := range []string{most, strings.Repeat("\n", api.MaxRows-1) + "x", strings.Repeat("a", api.MaxData)} {
		if _, at, e := Parse(s); at != len(s) || e != api.OK {
			t.Errorf("%.20q: %d %d", s, at, e)
		}
	}
}

func TestP18_2Right(t *testing.T) {
	many := make(rows, api.MaxRows+1)
	for i := range many {
		many[i] = []string{"a"}
	}
	for i, c := range []struct {
		l  rows
		ok bool
	}{
		{nil, true},
		{rows{{"a"}}, true},
		{rows{{""}}, false},
		{rows{{"", ""}}, true},
		{rows{{}}, false},
		{rows{{"a"}, {""}}, false},
		{rows{{"a"}, {"b", "c"}}, false},
		{rows{{"a", "d"}, {"b", "c"}}, true},
		{many[1:], true},
		{many, false},
	} {
		if Right(c.l) != c.ok {
			t.Error(i)
		}
		if (Text(c.l) != "") != (c.ok && len(c.l) > 0) {
			t.Error(i, Text(c.l))
		}
	}
}

func TestP18_2Text(t *testing.T) {
	for want, l := range map[string]rows{
		"a,b\r\n1,\"x,\"\"y\"\r\n":     {{"a", "b"}, {"1", `x,"y`}},
		"\"\r\",\"\n\", ,\"\"\"\"\r\n": {{"\r", "\n", " ", `"`}},
		",\r\n":                        {{"", ""}},
		"a;b,'c',\xff\r\n":             {{"a;b", "'c'", "\xff"}},
	} {
		if Text(l) != want {
			t.Errorf("%q: %q", want, Text(l))
		}
	}
}

func TestP18_2Column(t *testing.T) {
	l := rows{{"a", "b", "a", ""}, {"c", "c", "c", "c"}}
	for name, want := range map[string]int{"a": 0, "b": 1, "": 3, "c": -1, "A": -1} {
		if i, ok := Column(l, name); ok != (want >= 0) || i != max(0, want) {
			t.Error(name, i, ok)
		}
	}
	if i, ok := Column(nil, ""); i != 0 || ok {
		t.Error("no rows")
	}
	if i, ok := Column(rows{{}, {"a"}}, "a"); i != 0 || ok {
		t.Error("no columns")
	}
}

func TestP18_2Same(t *testing.T) {
	a := rows{{"a", "b"}, {"c", "d"}}
	for i, b := range []rows{nil, {{"a", "b"}}, {{"a", "b"}, {"c"}}, {{"a", "b"}, {"c", "e"}}, {{"x", "b"}, {"c", "d"}}, {{"a"}, {"b", "c", "d"}}} {
		if Same(a, b) || Same(b, a) {
			t.Error(i)
		}
	}
	if !Same(a, rows{{"a", "b"}, {"c", "d"}}) || !Same(nil, rows{}) || !Same(rows{nil}, rows{{}}) {
		t.Error("Same")
	}
}

func TestP18_3RoundTrip(t *testing.T) {
	rnd := rand.New(rand.NewSource(18))
	letters := "ab,\"\r\n "
	for range 3000 {
		l := make(rows, rnd.Intn(4))
		width := 1 + rnd.Intn(3)
		for i := range l {
			for range width {
				s := ""
				for range rnd.Intn(5) {
					s += string(letters[rnd.Intn(len(letters))])
				}
				l[i] = append(l[i], s)
			}
		}
		if !Right(l) {
			continue
		}
		s := Text(l)
		if got, at, e := Parse(s); !Same(got, l) || at != len(s) || e != api.OK {
			t.Fatalf("%q %q %d", l, s, e)
		}
		if strings.Contains(s, "\r\n\"") || strings.Contains(s, "\r\"") || strings.Count(s, "\r") > len(l) {
			continue
		}
		if lib, err := stdcsv.NewReader(strings.NewReader(s)).ReadAll(); err != nil || !Same(lib, l) {
			t.Fatalf("%q %q %v", l, lib, err)
		}
	}
}
