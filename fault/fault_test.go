package fault

import (
	"errors"
	"fmt"
	"math/rand"
	"slices"
	"strings"
	"testing"

	"portolan/api"
	"portolan/comp"
	"portolan/sample"
)

// broken is an error whose Unwrap panics.
type broken struct{}

func (broken) Error() string { return "broken" }
func (broken) Unwrap() error { panic("broken") }

// pile is an error that cannot be compared.
type pile []error

func (pile) Error() string     { return "pile" }
func (p pile) Unwrap() []error { return p }

func TestP40_1In(t *testing.T) {
	if e := In("a", 1, nil); e != nil {
		t.Error(e)
	}
	e := In("a", 1, api.ErrForm)
	if e != (api.Slip{Stage: "a", No: 1, Why: api.ErrForm}) {
		t.Error(e)
	}
	if e := In("", -5, api.OK); e != (api.Slip{No: -5, Why: api.OK}) {
		t.Error(e)
	}
}

func TestP40_1Code(t *testing.T) {
	twice := In("a", 1, In("b", 2, api.ErrForm))
	for i, c := range []struct {
		e    error
		code api.Errno
	}{
		{nil, api.OK},
		{twice, api.ErrForm},
		{api.ErrShort, api.ErrShort},
		{errors.New("x"), api.OK},
		{In("a", 1, errors.New("x")), api.OK},
		{api.Slip{Stage: "a"}, api.OK},
		{fmt.Errorf("x: %w", twice), api.ErrForm},
		{errors.Join(errors.New("x"), api.ErrMany, api.ErrSum), api.ErrMany},
		{api.Errno(77), 77},
		{broken{}, api.OK},
		{In("a", 1, broken{}), api.OK},
		{(*api.Slip)(nil), api.OK},
		{pile{api.ErrSum}, api.ErrSum},
	} {
		if code := Code(c.e); code != c.code {
			t.Error(i, code)
		}
		for n := api.OK; n <= api.ErrMany; n++ {
			want := c.code == n && (n != api.OK)
			if i == 7 {
				want = n == api.ErrMany || n == api.ErrSum
			}
			if Is(c.e, n) != want {
				t.Error(i, n)
			}
		}
	}
	if !Is(In("a", 1, api.OK), api.OK) || Is(nil, api.OK) || !Is(api.Errno(77), 77) {
		t.Error("Is")
	}
}

func TestP40_1Stages(t *testing.T) {
	inner := In("b", 2, api.ErrForm)
	for i, c := range []struct {
		e    error
		want []string
	}{
		{nil, nil},
		{api.ErrForm, nil},
		{In("a", 1, inner), []string{"a", "b"}},
		{api.Slip{Stage: "x"}, []string{"x"}},
		{In("", 0, errors.New("x")), []string{""}},
		{In("a", 1, fmt.Errorf("x: %w", inner)), []string{"a"}},
		{fmt.Errorf("x: %w", inner), nil},
		{&api.Slip{Stage: "a"}, nil},
		{broken{}, nil},
	} {
		if l := Stages(c.e); !slices.Equal(l, c.want) {
			t.Error(i, l)
		}
	}
	e := error(api.ErrForm)
	for range 60000 {
		e = In("s", 0, e)
	}
	if len(Stages(e)) != 60000 || Code(e) != api.ErrForm || !Is(e, api.ErrForm) {
		t.Error("deep")
	}
}

// spoilt returns an archive with a byte changed at an offset that is told by its header.
func spoilt(at int, more uint64) []byte {
	b := sample.Archive(true, 0, 2, sample.RoadMeta, func(p api.Place) []byte { return sample.Tile(sample.Roads(p)...) })
	off := uint64(0)
	for i := range 8 {
		off |= uint64(b[at+i]) << (8 * i)
	}
	b[off+more] ^= 0xff
	return b
}

func world() []api.File {
	odd := sample.Archive(false, 0, 0, sample.RoadMeta, func(api.Place) []byte {
		return sample.Tile(api.Layer{Name: "road", Extent: 63, Features: []api.Feature{{Type: api.GeoPoint, Paths: [][]api.Pt{sample.Points(1, 1)}}}})
	})
	return append(sample.Files(),
		api.File{Name: "root", Data: spoilt(8, 0)},
		api.File{Name: "meta", Data: spoilt(24, 0)},
		api.File{Name: "info", Data: sample.Archive(true, 0, 2, "[]", func(p api.Place) []byte { return sample.Tile(sample.Roads(p)...) })},
		api.File{Name: "odd", Data: odd},
		api.File{Name: "csv", Data: []byte("a\"")})
}

func TestP40_2Source(t *testing.T) {
	files := world()
	p := sample.Place(1, 0, 1)
	for i, c := range []struct {
		s     api.Source
		p     api.Place
		stage string
		why   api.Errno
	}{
		{api.Source{Archive: "roads"}, p, "", api.OK},
		{api.Source{Archive: "roads", Csv: "table", Join: api.Join{Key: "id"}}, p, "", api.OK},
		{api.Source{Archive: "missing"}, p, "file", api.ErrNone},
		{api.Source{Archive: "missing"}, sample.Place(1, 5, 5), "file", api.ErrNone},
		{api.Source{Archive: "bad"}, p, "head", api.ErrShort},
		{api.Source{Archive: "bad"}, sample.Place(99, 0, 0), "head", api.ErrShort},
		{api.Source{Archive: "root"}, p, "tile", api.ErrForm},
		{api.Source{Archive: "root"}, sample.Place(9, 511, 3), "tile", api.ErrForm},
		{api.Source{Archive: "root"}, sample.Place(1, 2, 0), "", api.OK},
		{api.Source{Archive: "root"}, sample.Place(-1, 0, 0), "", api.OK},
		{api.Source{Archive: "garbage"}, p, "layers", api.ErrForm},
		{api.Source{Archive: "meta"}, p, "meta", api.ErrForm},
		{api.Source{Archive: "info"}, p, "info", api.ErrForm},
		{api.Source{Archive: "undescribed"}, p, "fits", api.ErrForm},
		{api.Source{Archive: "undescribed"}, sample.Place(2, 3, 3), "", api.OK},
		{api.Source{Archive: "undescribed", Csv: "missing"}, p, "fits", api.ErrForm},
		{api.Source{Archive: "roads", Csv: "missing"}, p, "table", api.ErrNone},
		{api.Source{Archive: "roads", Csv: "missing"}, sample.Place(2, 3, 3), "", api.OK},
		{api.Source{Archive: "roads", Csv: "table", Join: api.Join{Key: "x"}}, p, "join", api.ErrNone},
		{api.Source{Archive: "roads", Csv: "csv", Join: api.Join{Key: "x"}}, p, "join", api.ErrForm},
		{api.Source{Archive: "lands", Csv: "missing"}, sample.Place(0, 0, 0), "", api.OK},
	} {
		e := Source(files, c.s, c.p)
		if c.stage == "" {
			if e != nil {
				t.Error(i, e)
			}
		} else if e != (api.Slip{Stage: c.stage, Why: c.why}) {
			t.Errorf("%d: %#v", i, e)
		}
	}
}

func many(archives ...string) api.Composite {
	c := sample.One("x", archives[0])
	for _, a := range archives[1:] {
		c.Sources = append(c.Sources, api.Source{Archive: a})
	}
	return c
}

func TestP40_3Why(t *testing.T) {
	files := world()
	p := sample.Place(1, 0, 1)
	b, _ := comp.Tile(files, many("roads"), p)
	exact, less := many("roads"), many("roads")
	exact.Limit, less.Limit = len(b), len(b)-1
	negative := many("roads")
	negative.Limit = -1
	tight := sample.Composites()[2]
	slip := func(stage string, no int, e error) error { return api.Slip{Stage: stage, No: no, Why: e} }
	for i, c := range []struct {
		c      api.Composite
		p      api.Place
		want   error
		status int
	}{
		{many("roads"), p, nil, 200},
		{exact, p, nil, 200},
		{many("undescribed"), sample.Place(2, 3, 3), nil, 200},
		{api.Composite{}, sample.Place(99, 0, 0), slip("source", 0, api.ErrNone), 502},
		{many("roads", "garbage", "bad"), sample.Place(99, 0, 0), slip("source", 2, slip("head", 0, api.ErrShort)), 502},
		{many("roads", "missing", "bad"), p, slip("source", 1, slip("file", 0, api.ErrNone)), 502},
		{many("garbage"), sample.Place(6, 0, 0), slip("zoom", 6, api.ErrRange), 404},
		{many("roads"), sample.Place(-1, 0, 0), slip("zoom", -1, api.ErrRange), 404},
		{many("lands"), sample.Place(0, 9, 9), slip("zoom", 0, api.ErrRange), 404},
		{many("garbage"), sample.Place(1, 2, 0), slip("place", 0, api.ErrRange), 400},
		{many("roads", "garbage"), p, slip("source", 1, slip("layers", 0, api.ErrForm)), 502},
		{many("roads", "meta", "garbage"), p, slip("source", 1, slip("meta", 0, api.ErrForm)), 502},
		{many("roads", "odd"), sample.Place(0, 0, 0), slip("merge", 0, api.ErrRange), 500},
		{negative, sample.Place(2, 3, 3), nil, 200},
		{negative, p, slip("limit", len(b), api.ErrLong), 500},
		{less, p, slip("limit", len(b), api.ErrLong), 500},
		{tight, sample.Place(0, 0, 0), slip("limit", size(files, tight), api.ErrLong), 500},
	} {
		e := Why(files, c.c, c.p)
		if e != c.want || Status(e) != c.status {
			t.Errorf("%d: %#v %d", i, e, Status(e))
		}
	}
}

// texts returns an archive of a tile with a text of n bytes.
func texts(n int) []byte {
	f := api.Feature{Type: api.GeoPoint, Paths: [][]api.Pt{sample.Points(1, 1)}, Attrs: []api.Attr{sample.Text("name", strings.Repeat("a", n))}}
	return sample.Archive(true, 0, 0, sample.RoadMeta, func(api.Place) []byte {
		return sample.Tile(api.Layer{Name: "road", Extent: 64, Features: []api.Feature{f}})
	})
}

func TestP40_3MaxData(t *testing.T) {
	const half = api.MaxData / 2
	c := many("a", "b")
	c.Sources[1].Layers = [][2]string{{"road", "other"}}
	c.Limit = 2 * api.MaxData
	files := func(n int) []api.File { return []api.File{{Name: "a", Data: texts(half)}, {Name: "b", Data: texts(n)}} }
	b, _ := comp.Tile(files(half-1000), c, api.Place{})
	n := half - 1000 + api.MaxData - len(b)
	if e := Why(files(n), c, api.Place{}); e != nil {
		t.Error(e)
	}
	if e := Why(files(n+1), c, api.Place{}); e != (api.Slip{Stage: "limit", No: api.MaxData + 1, Why: api.ErrLong}) {
		t.Error(e)
	}
}

// size returns the number of bytes of the first tile without a limit.
func size(files []api.File, c api.Composite) int {
	c.Limit = api.MaxData
	b, _ := comp.Tile(files, c, sample.Place(0, 0, 0))
	return len(b)
}

func TestP40_3Status(t *testing.T) {
	for stage, want := range map[string]int{"source": 502, "zoom": 404, "place": 400, "merge": 500, "limit": 500, "file": 0, "head": 0, "": 0, "Source": 0} {
		if n := Status(In(stage, 5, In("zoom", 0, api.ErrForm))); n != want {
			t.Error(stage, n)
		}
	}
	for i, e := range []error{api.ErrForm, api.OK, errors.New("zoom"), fmt.Errorf("x: %w", In("zoom", 1, api.ErrForm)), broken{}} {
		if n := Status(e); n != 0 {
			t.Error(i, n)
		}
	}
	if Status(nil) != api.StOK {
		t.Error("nil")
	}
}

func TestP40_4TheStatusOfTheTile(t *testing.T) {
	rnd := rand.New(rand.NewSource(40))
	known := world()
	names := []string{"roads", "roads", "lands", "lands", "odd", "undescribed", "garbage", "meta", "bad", "missing"}
	seen := map[int]int{}
	for range 3000 {
		files := slices.Clone(known)
		if rnd.Intn(3) == 0 {
			n := rnd.Intn(3)
			files[n].Data = slices.Clone(files[n].Data)
			files[n].Data[rnd.Intn(min(len(files[n].Data), 400))] ^= 1 << rnd.Intn(8)
		}
		c := api.Composite{Buffer: rnd.Intn(65), MaxZoom: rnd.Intn(6), Limit: []int{0, 300, api.MaxData}[rnd.Intn(3)]}
		for range rnd.Intn(4) {
			s := api.Source{Archive: names[rnd.Intn(1+rnd.Intn(len(names)))]}
			if rnd.Intn(3) == 0 {
				s.Csv, s.Join = "table", api.Join{Key: []string{"id", "id", "x"}[rnd.Intn(3)], Attr: "id", Drop: rnd.Intn(2) == 0}
			}
			c.Sources = append(c.Sources, s)
		}
		z := rnd.Intn(7)
		p := sample.Place(z, rnd.Intn(1<<z), rnd.Intn(1<<z+1))
		_, status := comp.Tile(files, c, p)
		e := Why(files, c, p)
		seen[status]++
		if served := status == api.StOK || status == api.StNone; served != (e == nil) || !served && Status(e) != status {
			t.Fatalf("%v %v: %d %#v", c, p, status, e)
		}
	}
	for _, status := range []int{200, 204, 400, 404, 500, 502} {
		if seen[status] == 0 {
			t.Error(status, seen)
		}
	}
}
