package report

import (
	"fmt"
	"strconv"
	"testing"

	"portolan/api"
	"portolan/arch"
	"portolan/sample"
)

const (
	maxI = 1<<63 - 1
	minI = -1 << 63
	top  = 1<<64 - 1
)

func TestP39_1Place(t *testing.T) {
	for want, p := range map[string]api.Place{
		"3/1/2": sample.Place(3, 1, 2), "0/0/0": {}, "-1/-2/-3": sample.Place(-1, -2, -3),
		"9223372036854775807/-9223372036854775808/0": sample.Place(maxI, minI, 0),
	} {
		if Place(p) != want {
			t.Error(want, Place(p))
		}
	}
}

func TestP39_1Path(t *testing.T) {
	for want, l := range map[string][]api.Pt{
		"1,-2 3,4": sample.Points(1, -2, 3, 4), "": nil, "0,0": sample.Points(0, 0), "5,5 5,5 5,5": sample.Points(5, 5, 5, 5, 5, 5),
	} {
		if Path(l) != want {
			t.Error(want, Path(l))
		}
	}
}

func TestP39_1Value(t *testing.T) {
	for i, c := range []struct {
		v    api.Value
		want string
	}{
		{api.Value{Kind: api.ValText, Text: "a\"é\n"}, `"a\"é\n"`},
		{api.Value{Kind: api.ValText, Text: "\xff"}, "?"},
		{api.Value{Kind: api.ValBool, Bits: 1}, "true"},
		{api.Value{Kind: api.ValBool}, "false"},
		{api.Value{Kind: api.ValBool, Bits: 2}, "?"},
		{api.Value{Kind: api.ValInt, Bits: top}, "-1"},
		{api.Value{Kind: api.ValSint, Bits: 1 << 63}, "-9223372036854775808"},
		{api.Value{Kind: api.ValInt, Bits: 12}, "12"},
		{api.Value{Kind: api.ValUint, Bits: top}, "18446744073709551615"},
		{api.Value{Kind: api.ValFloat, Bits: 0xabc}, "f00000abc"},
		{api.Value{Kind: api.ValFloat, Bits: 1<<32 - 1}, "fffffffff"},
		{api.Value{Kind: api.ValFloat, Bits: 1 << 32}, "?"},
		{api.Value{Kind: api.ValDouble, Bits: 0x3ff8000000000000}, "d3ff8000000000000"},
		{api.Value{Kind: api.ValDouble}, "d0000000000000000"},
		{api.Value{}, "?"},
		{api.Value{Kind: 8}, "?"},
	} {
		if Value(c.v) != c.want {
			t.Error(i, Value(c.v))
		}
	}
}

func TestP39_2Feature(t *testing.T) {
	for i, c := range []struct {
		f    api.Feature
		want string
	}{
		{api.Feature{HasID: true, ID: top, Type: api.GeoPoint, Paths: [][]api.Pt{sample.Points(1, 2)}, Attrs: []api.Attr{sample.Text("k", "v"), sample.Number("n\"", api.ValInt, 3)}},
			`point id 18446744073709551615 (1,2) "k"="v" "n\""=3`},
		{api.Feature{Type: api.GeoLine, ID: 5, Paths: [][]api.Pt{sample.Points(1, 2, 3, 4), sample.Points(5, 6)}}, "line (1,2 3,4) (5,6)"},
		{api.Feature{Type: api.GeoPoly, HasID: true}, "polygon id 0"},
		{api.Feature{Paths: [][]api.Pt{nil}}, "? ()"},
		{api.Feature{Type: 4, Attrs: []api.Attr{{}}}, `? ""=?`},
		{api.Feature{Type: -1}, "?"},
	} {
		if Feature(c.f) != c.want {
			t.Error(i, Feature(c.f))
		}
	}
}

func TestP39_2Layer(t *testing.T) {
	x := api.Layer{Name: "a\"", Extent: 4096, Features: []api.Feature{{Type: api.GeoPoint, Paths: [][]api.Pt{sample.Points(1, 2)}}, {Type: api.GeoLine}}}
	if s := Layer(x); s != "layer \"a\\\"\" extent 4096 features 2\n  point (1,2)\n  line\n" {
		t.Errorf("%q", s)
	}
	if s := Layer(api.Layer{Extent: -5}); s != "layer \"\" extent -5 features 0\n" {
		t.Errorf("%q", s)
	}
}

func TestP39_3Archive(t *testing.T) {
	for _, f := range sample.Files()[:2] {
		h, _ := arch.Head(f.Data)
		packing := map[int]string{1: "plain", 2: "gzip"}[h.Outer]
		want := fmt.Sprintf("zooms %d-%d tiles %d packed %s meta %d\nroot %d+%d leaves %d+%d data %d+%d\n", h.MinZoom, h.MaxZoom, h.Counts[0], packing, h.Meta[1],
			h.Root[0], h.Root[1], h.Leaves[0], h.Leaves[1], h.Data[0], h.Data[1])
		if s := Archive(f.Data); s != want {
			t.Error(s, want)
		}
	}
	h := api.Header{Inner: 2, Outer: 1, Kind: 1, MinZoom: 1, MaxZoom: 2, Counts: [3]uint64{top, 5, 6}, Root: [2]uint64{1, 2}, Meta: [2]uint64{3, 4}, Leaves: [2]uint64{5, 6}, Data: [2]uint64{7, 8}}
	if s := Archive(arch.PutHead(h)); s != "zooms 1-2 tiles 18446744073709551615 packed plain meta 4\nroot 1+2 leaves 5+6 data 7+8\n" {
		t.Error(s)
	}
	for want, b := range map[api.Errno][]byte{api.ErrShort: nil, api.ErrForm: make([]byte, 127), api.ErrLong: make([]byte, api.MaxFile+1)} {
		if s := Archive(b); s != "error "+strconv.Itoa(int(want))+"\n" {
			t.Error(s)
		}
	}
}

func TestP39_3Answer(t *testing.T) {
	x := api.Resp{Status: 200, Heads: [][2]string{{"A", "b"}, {"C", ""}}, Body: []byte("xyz")}
	if s := Answer(x); s != "200 OK 3\n  A: b\n  C: \n" {
		t.Errorf("%q", s)
	}
	if s := Answer(api.Resp{}); s != "0  0\n" {
		t.Errorf("%q", s)
	}
}

func TestP39_4Different(t *testing.T) {
	numbers := []int{0, 1, -1, 10, 11, 110, minI, maxI}
	places, paths := map[string]int{}, map[string]int{"": 0}
	n := 0
	for _, a := range numbers {
		for _, b := range numbers {
			for _, c := range numbers {
				places[Place(sample.Place(a, b, c))]++
				paths[Path(sample.Points(a, b, c, a))]++
				n++
			}
			paths[Path(sample.Points(a, b))]++
		}
	}
	if len(places) != n || len(paths) != n+len(numbers)*len(numbers)+1 {
		t.Error(len(places), len(paths), n)
	}
}
