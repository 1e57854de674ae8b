package json

import (
	stdjson "encoding/json"
	"math/rand"
	"strings"
	"testing"

	"portolan/api"
	"portolan/dec"
)

func list(l ...api.Json) api.Json { return api.Json{Kind: api.JsList, List: l} }

// object takes keys and values in turn.
func object(l ...any) api.Json {
	x := api.Json{Kind: api.JsMap}
	for i := 0; i < len(l); i += 2 {
		x.Keys = append(x.Keys, l[i].(string))
		x.List = append(x.List, l[i+1].(api.Json))
	}
	return x
}

func num(n int) api.Json { return Num(dec.Of(n, 0)) }

var (
	yes = api.Json{Kind: api.JsBool, Yes: true}
	no  = api.Json{Kind: api.JsBool}
)

// nested returns so many arrays within one another, the innermost with x, if it is given.
func nested(n int, x ...api.Json) api.Json {
	y := list(x...)
	for range n - 1 {
		y = list(y)
	}
	return y
}

func TestP17_1Right(t *testing.T) {
	bad := api.Json{Kind: 6}
	for i, c := range []struct {
		x  api.Json
		ok bool
	}{
		{api.Json{}, true},
		{yes, true},
		{bad, false},
		{api.Json{Kind: -1}, false},
		{num(5), true},
		{Num(api.Dec{Neg: true}), false},
		{Of("é"), true},
		{Of("\xff"), false},
		{list(), true},
		{list(num(1), bad), false},
		{object(), true},
		{object("a", num(1), "b", no), true},
		{object("a", num(1), "a", no), false},
		{object("\xff", num(1)), false},
		{object("a", bad), false},
		{api.Json{Kind: api.JsMap, Keys: []string{"a"}}, false},
		{api.Json{Kind: api.JsMap, List: []api.Json{no}}, false},
		{api.Json{Kind: api.JsNull, Text: "\xff", List: []api.Json{bad}, Num: api.Dec{Neg: true}}, true},
		{nested(64), true},
		{nested(65), false},
		{nested(63, num(1)), true},
		{nested(64, num(1)), false},
		{nested(63, object()), true},
		{nested(63, object("a", num(1))), false},
		{nested(62, object("a", num(1))), true},
		{nested(60000), false},
	} {
		if Right(c.x) != c.ok {
			t.Error(i)
		}
		if (Text(c.x) != "") != c.ok {
			t.Error(i, Text(c.x))
		}
	}
}

func TestP17_1Same(t *testing.T) {
	l := []api.Json{{}, yes, no, num(1), num(2), Of("a"), Of("b"), list(), list(num(1)), list(num(1), num(1)), list(num(2)),
		object(), object("a", num(1)), object("b", num(1)), object("a", num(2)), object("a", num(1), "b", num(1)), object("b", num(1), "a", num(1)), {Kind: 9}}
	for i, x := range l {
		for j, y := range l {
			if Same(x, y) != (i == j) {
				t.Error(i, j)
			}
		}
	}
	for _, x := range l {
		y := x
		if x.Kind != api.JsText {
			y.Text = "other"
		}
		if x.Kind != api.JsBool {
			y.Yes = true
		}
		if x.Kind != api.JsNum {
			y.Num = api.Dec{Exp: 5}
		}
		if x.Kind == api.JsList {
			y.Keys = []string{"other"}
		}
		if !Same(x, y) || !Same(y, x) {
			t.Error("not meaningful", x.Kind)
		}
	}
}

func TestP17_1Get(t *testing.T) {
	x := object("a", num(1), "b", list(num(2)), "a", num(3))
	if y, ok := Get(x, "a"); !Same(y, num(1)) || !ok {
		t.Error(y, ok)
	}
	deep := object("a", object("b", num(1)))
	in, _ := Get(deep, "a")
	in.Keys[0] = "changed"
	if deep.List[0].Keys[0] != "b" {
		t.Error("the argument was shared")
	}
	y, ok := Get(x, "b")
	if !Same(y, list(num(2))) || !ok {
		t.Error(y, ok)
	}
	y.List[0] = num(9)
	if !Same(x.List[1], list(num(2))) {
		t.Error("the argument was shared")
	}
	for i, z := range []api.Json{x, {}, list(num(1)), {Kind: api.JsText, Keys: []string{"c"}, List: []api.Json{yes}}, {Kind: api.JsMap, Keys: []string{"c"}}} {
		if y, ok := Get(z, "c"); ok || !Same(y, api.Json{}) {
			t.Error(i, y, ok)
		}
	}
}

func TestP17_1Made(t *testing.T) {
	if x := Of("a"); x.Kind != api.JsText || x.Text != "a" {
		t.Error(x)
	}
	if x := Num(api.Dec{Digits: "5"}); x.Kind != api.JsNum || x.Num.Digits != "5" {
		t.Error(x)
	}
}

func TestP17_2Text(t *testing.T) {
	for want, x := range map[string]api.Json{
		"null":                       {},
		"true":                       yes,
		"false":                      no,
		"-12.5":                      Num(dec.Of(-125, -1)),
		`"a\n\"é"`:                   Of("a\n\"é"),
		"[]":                         list(),
		"{}":                         object(),
		`[1,[],{"a":2,"":[null]},1]`: list(num(1), list(), object("a", num(2), "", list(api.Json{})), num(1)),
		`{"\u0001":true}`:            object("\x01", yes),
	} {
		if Text(x) != want {
			t.Error(want, Text(x))
		}
	}
}

func TestP17_3Parse(t *testing.T) {
	for s, want := range map[string]api.Json{
		"[1, {}]":                            list(num(1), object()),
		" \t\r\nnull \t\r\n":                 {},
		"true":                               yes,
		"false":                              no,
		`"\u00e9"`:                           Of("é"),
		"-1.50e1":                            num(-15),
		"[ ]":                                list(),
		" { } ":                              object(),
		` { "a" : 1 , "b" : [ 2 , true ] } `: object("a", num(1), "b", list(num(2), yes)),
		`{"a":{"a":1},"b":{"a":2}}`:          object("a", object("a", num(1)), "b", object("a", num(2))),
		strings.Repeat("[", 64) + strings.Repeat("]", 64):             nested(64),
		strings.Repeat("[", 63) + "0" + strings.Repeat("]", 63):       nested(63, num(0)),
		strings.Repeat("[", 63) + " {}" + strings.Repeat("]", 63):     nested(63, object()),
		strings.Repeat("[", 62) + `{"a":1}` + strings.Repeat("]", 62): nested(62, object("a", num(1))),
	} {
		if x, at, e := Parse(s); !Same(x, want) || at != len(s) || e != api.OK {
			t.Error(s, x, at, e)
		}
	}
}

func TestP17_3Errors(t *testing.T) {
	deep := strings.Repeat("[", 64)
	for _, c := range []struct {
		s  string
		at int
		e  api.Errno
	}{
		{"", 0, api.ErrShort},
		{"  ", 2, api.ErrShort},
		{"[1,]", 3, api.ErrForm},
		{"[1,,2]", 3, api.ErrForm},
		{"[,1]", 1, api.ErrForm},
		{"[1 2]", 3, api.ErrForm},
		{"[1", 2, api.ErrShort},
		{"[1,", 3, api.ErrShort},
		{"[", 1, api.ErrShort},
		{"[1}", 2, api.ErrForm},
		{"{", 1, api.ErrShort},
		{"{ ", 2, api.ErrShort},
		{"{1:2}", 1, api.ErrForm},
		{"{,", 1, api.ErrForm},
		{"{]", 1, api.ErrForm},
		{`{"a"`, 4, api.ErrShort},
		{`{"a" 1}`, 5, api.ErrForm},
		{`{"a":`, 5, api.ErrShort},
		{`{"a":}`, 5, api.ErrForm},
		{`{"a":1`, 6, api.ErrShort},
		{`{"a":1]`, 6, api.ErrForm},
		{`{"a":1,`, 7, api.ErrShort},
		{`{"a":1,}`, 7, api.ErrForm},
		{`{"a":1,2}`, 7, api.ErrForm},
		{`{"a":1, "a":2}`, 8, api.ErrForm},
		{`{"a":1, "\u0061"`, 8, api.ErrForm},
		{`{"a`, 1, api.ErrShort},
		{`{"\x":1}`, 1, api.ErrForm},
		{`["a`, 1, api.ErrShort},
		{`["\ud800\u`, 1, api.ErrShort},
		{"[\"\xff\"]", 1, api.ErrForm},
		{"[\"\n\"]", 1, api.ErrForm},
		{"nul", 0, api.ErrForm},
		{"[tru]", 1, api.ErrForm},
		{"[fals", 1, api.ErrForm},
		{"nullx", 4, api.ErrForm},
		{"[truefalse]", 5, api.ErrForm},
		{"1 1", 2, api.ErrForm},
		{"1]", 1, api.ErrForm},
		{"01", 1, api.ErrForm},
		{"1.", 1, api.ErrForm},
		{"-", 0, api.ErrForm},
		{" -x", 1, api.ErrForm},
		{"+1", 0, api.ErrForm},
		{"[1e9999]", 1, api.ErrRange},
		{"[" + strings.Repeat("9", 101) + "]", 1, api.ErrLong},
		{"\v1", 0, api.ErrForm},
		{"\ufeff1", 0, api.ErrForm},
		{deep + "[", 64, api.ErrMany},
		{deep + " 1", 65, api.ErrMany},
		{deep + "x", 64, api.ErrMany},
		{deep + ",", 64, api.ErrMany},
		{deep + "\"", 64, api.ErrMany},
		{deep + "  ", 66, api.ErrShort},
		{deep[1:] + `{"a":x`, 68, api.ErrMany},
		{deep[1:] + `{"a" x`, 68, api.ErrForm},
		{strings.Repeat(" ", api.MaxData) + "x", 0, api.ErrLong},
		{strings.Repeat(" ", api.MaxData), api.MaxData, api.ErrShort},
		{strings.Repeat("[", api.MaxData), 64, api.ErrMany},
	} {
		if x, at, e := Parse(c.s); !Same(x, api.Json{}) || at != c.at || e != c.e {
			t.Errorf("%.80s: %v %d %d", c.s, x, at, e)
		}
	}
}

func TestP17_3Library(t *testing.T) {
	rnd := rand.New(rand.NewSource(17))
	parts := []string{"[", "]", "{", "}", ",", ":", `"a"`, `"b"`, "1", "-2.5e3", " ", "null", "true"}
	for range 200000 {
		s := ""
		for range 1 + rnd.Intn(8) {
			s += parts[rnd.Intn(len(parts))]
		}
		x, at, e := Parse(s)
		// the library takes keys that occur twice
		if valid := stdjson.Valid([]byte(s)); valid != (e == api.OK) && !(valid && strings.Count(s, `"`) > 3) {
			t.Fatal(s, x, at, e)
		}
	}
}

func TestP17_4RoundTrip(t *testing.T) {
	rnd := rand.New(rand.NewSource(18))
	var made func(depth int) api.Json
	made = func(depth int) api.Json {
		n := 6
		if depth == 0 {
			n = 4
		}
		x := api.Json{Kind: rnd.Intn(n)}
		switch x.Kind {
		case api.JsBool:
			x.Yes = rnd.Intn(2) == 0
		case api.JsNum:
			x.Num = dec.Of(rnd.Int()-rnd.Int(), rnd.Intn(50)-25)
		case api.JsText:
			x.Text = string(rune(rnd.Intn(300))) + string(rune(rnd.Intn(0x20000)))
		case api.JsList, api.JsMap:
			for i := range rnd.Intn(4) {
				x.List = append(x.List, made(depth-1))
				if x.Kind == api.JsMap {
					x.Keys = append(x.Keys, string(rune('a'+i))+string(rune(rnd.Intn(200))))
				}
			}
		}
		return x
	}
	for range 3000 {
		x := made(4)
		s := Text(x)
		if y, at, e := Parse(s); !Same(x, y) || at != len(s) || e != api.OK || !stdjson.Valid([]byte(s)) {
			t.Fatal(s, at, e)
		}
	}
}
