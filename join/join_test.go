package join

import (
	"slices"
	"testing"

	"portolan/api"
)

func text(s string) api.Value { return api.Value{Kind: api.ValText, Text: s} }
func whole(n int) api.Value   { return api.Value{Kind: api.ValInt, Bits: uint64(n)} }

func attr(key string, v api.Value) api.Attr { return api.Attr{Key: key, Val: v} }

func made(t *testing.T, s string, j api.Join) *Table {
	x, e := New(s, j)
	if e != api.OK || x == nil {
		t.Fatal(s, e)
	}
	return x
}

func TestP21_1New(t *testing.T) {
	for i, c := range []struct {
		s string
		j api.Join
		e api.Errno
	}{
		{"id,a\n1,2\n", api.Join{Key: "id"}, api.OK},
		{"id", api.Join{Key: "id"}, api.OK},
		{"id,a\n1\n", api.Join{Key: "id"}, api.ErrForm},
		{"id,\"a", api.Join{Key: "id"}, api.ErrShort},
		{string(make([]byte, api.MaxData+1)), api.Join{}, api.ErrLong},
		{"", api.Join{Key: "id"}, api.ErrNone},
		{"", api.Join{}, api.ErrNone},
		{"id,a", api.Join{Key: "b"}, api.ErrNone},
		{"id,a", api.Join{}, api.ErrNone},
		{"id,a", api.Join{Key: "id", Only: []string{"a", "b"}}, api.ErrNone},
		{"id,a", api.Join{Key: "id", Not: []string{"b"}}, api.ErrNone},
		{"id,a,a", api.Join{Key: "id"}, api.ErrForm},
		{"id,id", api.Join{Key: "id"}, api.ErrForm},
		{"id,a,a", api.Join{Key: "b"}, api.ErrNone},
		{"id,\xff", api.Join{Key: "id"}, api.ErrForm},
		{"id,\xff", api.Join{Key: "\xff"}, api.ErrForm},
		{"id,\xff,a", api.Join{Key: "id", Only: []string{"b"}}, api.ErrNone},
		{"id,", api.Join{Key: ""}, api.OK},
	} {
		if x, e := New(c.s, c.j); e != c.e || (x != nil) != (e == api.OK) {
			t.Error(i, e)
		}
	}
}

func TestP21_1Columns(t *testing.T) {
	for i, c := range []struct {
		j    api.Join
		want []string
	}{
		{api.Join{Key: "id"}, []string{"a", "b", "c"}},
		{api.Join{Key: "b"}, []string{"a", "id", "c"}},
		{api.Join{Key: "id", Only: []string{"c", "a", "c"}}, []string{"a", "c"}},
		{api.Join{Key: "id", Only: []string{"id", "c"}}, []string{"id", "c"}},
		{api.Join{Key: "id", Not: []string{"b"}}, []string{"a", "c"}},
		{api.Join{Key: "id", Only: []string{"c", "a"}, Not: []string{"a", "b"}}, []string{"c"}},
		{api.Join{Key: "id", Not: []string{"a", "b", "c"}}, nil},
		{api.Join{Key: "id", Only: []string{"a"}, Not: []string{"a"}}, nil},
	} {
		if l := made(t, "a,id,b,c\n", c.j).Columns(); !slices.Equal(l, c.want) {
			t.Error(i, l)
		}
	}
	only := []string{"a"}
	x := made(t, "a,id,b,c\n", api.Join{Key: "id", Only: only})
	only[0] = "b"
	x.Columns()[0] = "z"
	if !slices.Equal(x.Columns(), []string{"a"}) {
		t.Error(x.Columns())
	}
}

func TestP21_2Row(t *testing.T) {
	s := "id,a,b\n7,1,x\n8,,1.5\n7,2,y\n07,\xff,3\n,5,\n"
	x := made(t, s, api.Join{Key: "id"})
	for key, want := range map[string][]api.Attr{
		"7":  {attr("a", whole(1)), attr("b", text("x"))},
		"8":  {attr("b", api.Value{Kind: api.ValDouble, Bits: 0x3ff8000000000000})},
		"07": {attr("b", whole(3))},
		"":   {attr("a", whole(5))},
	} {
		if l, ok := x.Row(key); !slices.Equal(l, want) || !ok {
			t.Error(key, l, ok)
		}
	}
	for _, key := range []string{"id", "9", "7 "} {
		if l, ok := x.Row(key); len(l) > 0 || ok {
			t.Error(key, l, ok)
		}
	}
	texts := made(t, s, api.Join{Key: "id", Texts: true})
	if l, ok := texts.Row("7"); !slices.Equal(l, []api.Attr{attr("a", text("1")), attr("b", text("x"))}) || !ok {
		t.Error(l, ok)
	}
	none := made(t, s, api.Join{Key: "id", Only: []string{"a"}, Not: []string{"a"}})
	if l, ok := none.Row("7"); len(l) > 0 || !ok {
		t.Error(l, ok)
	}
}

func TestP21_2Over(t *testing.T) {
	one, two, three := whole(1), whole(2), whole(3)
	for i, c := range []struct{ l, more, want []api.Attr }{
		{nil, nil, nil},
		{[]api.Attr{attr("a", one)}, nil, []api.Attr{attr("a", one)}},
		{nil, []api.Attr{attr("a", one), attr("b", two), attr("a", three)}, []api.Attr{attr("a", three), attr("b", two)}},
		{[]api.Attr{attr("a", one), attr("b", one), attr("a", two)}, []api.Attr{attr("c", one), attr("a", two), attr("a", three)},
			[]api.Attr{attr("a", three), attr("b", one), attr("a", three), attr("c", one)}},
	} {
		l := slices.Clone(c.l)
		got := Over(l, c.more)
		if !slices.Equal(got, c.want) || !slices.Equal(l, c.l) {
			t.Error(i, got)
		}
		if len(got) > 0 {
			got[0].Key = "z"
			if len(l) > 0 && l[0].Key == "z" {
				t.Error("shared")
			}
		}
	}
}

func TestP21_3Attrs(t *testing.T) {
	s := "id,pop\n7,12\nx,5\n"
	for _, drop := range []bool{false, true} {
		x := made(t, s, api.Join{Key: "id", Attr: "id", Drop: drop})
		for i, c := range []struct {
			l, want []api.Attr
			met     bool
		}{
			{[]api.Attr{attr("id", whole(7))}, []api.Attr{attr("id", whole(7)), attr("pop", whole(12))}, true},
			{[]api.Attr{attr("pop", text("a")), attr("id", text("x"))}, []api.Attr{attr("pop", whole(5)), attr("id", text("x"))}, true},
			{[]api.Attr{attr("id", whole(8))}, nil, false},
			{[]api.Attr{attr("id", whole(8)), attr("id", whole(7))}, nil, false},
			{[]api.Attr{attr("ID", whole(7))}, nil, false},
			{[]api.Attr{attr("id", api.Value{Kind: api.ValBool, Bits: 9})}, nil, false},
			{nil, nil, false},
		} {
			want := c.want
			if !c.met {
				want = c.l
			}
			if l, ok := x.Attrs(c.l); !slices.Equal(l, want) || ok != (c.met || !drop) {
				t.Error(i, l, ok)
			}
		}
		l := []api.Attr{attr("a", whole(1))}
		got, _ := x.Attrs(l)
		got[0].Key = "z"
		if l[0].Key != "a" {
			t.Error("shared")
		}
	}
}

func TestP21_3Fields(t *testing.T) {
	s := "id,a,b,c,d,e\n1,1,,x,1.5,\n2,,,2,1e5,\xff\n3,-3,,3,1e999,4\n"
	x := made(t, s, api.Join{Key: "id"})
	want := [][2]string{{"a", "Number"}, {"b", "String"}, {"c", "String"}, {"d", "String"}, {"e", "Number"}}
	if !slices.Equal(x.Fields(), want) {
		t.Error(x.Fields())
	}
	texts := made(t, s, api.Join{Key: "id", Texts: true, Only: []string{"a"}})
	if !slices.Equal(texts.Fields(), [][2]string{{"a", "String"}}) {
		t.Error(texts.Fields())
	}
	names := made(t, "id,5\n", api.Join{Key: "id"})
	if !slices.Equal(names.Fields(), [][2]string{{"5", "String"}}) {
		t.Error(names.Fields())
	}
}

func TestP21_1NilTable(t *testing.T) {
	var x *Table
	l := []api.Attr{attr("a", whole(1))}
	if row, ok := x.Row("a"); len(row) > 0 || ok || len(x.Columns()) > 0 || len(x.Fields()) > 0 {
		t.Error("nil table")
	}
	got, ok := x.Attrs(l)
	if !slices.Equal(got, l) || !ok {
		t.Error(got, ok)
	}
	got[0].Key = "z"
	if l[0].Key != "a" {
		t.Error("shared")
	}
}

func TestP21_4Keys(t *testing.T) {
	values := []api.Value{whole(1), text("a"), whole(2)}
	keys := []string{"a", "b", "c", "d"}
	for n := range 4096 {
		var l, more []api.Attr
		for i, key := range keys {
			if n>>i&1 == 1 {
				l = append(l, attr(key, values[i%3]))
			}
			if n>>(4+2*i)&3 > 0 {
				more = append(more, attr(key, values[n>>(4+2*i)&3-1]))
			}
		}
		got := Over(l, more)
		seen := map[string]int{}
		for i, a := range got {
			seen[a.Key]++
			in := slices.ContainsFunc(more, func(b api.Attr) bool { return b.Key == a.Key })
			if i < len(l) && (a.Key != l[i].Key || !in && a.Val != l[i].Val) || seen[a.Key] > 1 {
				t.Fatal(l, more, got)
			}
		}
	}
}
