package sample_test

import (
	"bytes"
	"fmt"
	"math/rand"
	"slices"
	"strings"
	"testing"

	"portolan/api"
	"portolan/audit"
	"portolan/comp"
	"portolan/conf"
	"portolan/gzip"
	"portolan/json"
	"portolan/over"
	"portolan/proxy"
	"portolan/req"
	"portolan/sample"
	"portolan/serve"
	"portolan/tile"
	"portolan/wind"
)

// The promises of the whole, G1 to G5, are tested here, since no single layer keeps them.

func request(method, path string, more ...string) []byte {
	s := method + " " + path + " HTTP/1.1\r\nHost: x\r\n"
	for _, line := range more {
		s += line + "\r\n"
	}
	return []byte(s + "\r\n")
}

func same(x, y api.Resp) bool {
	return x.Status == y.Status && slices.Equal(x.Heads, y.Heads) && bytes.Equal(x.Body, y.Body)
}

func tilePath(id string, p api.Place) string {
	return fmt.Sprintf("/%s/%d/%d/%d.mvt", id, p.Z, p.X, p.Y)
}

func TestG1Statuses(t *testing.T) {
	files := append(sample.Files(), api.File{Name: "odd", Data: sample.Archive(false, 0, 0, sample.RoadMeta, func(api.Place) []byte {
		return sample.Tile(api.Layer{Name: "road", Extent: 63, Features: []api.Feature{{Type: api.GeoPoint, Paths: [][]api.Pt{sample.Points(1, 1)}}}})
	})})
	odd := sample.One("odd", "roads")
	odd.Sources = append(odd.Sources, api.Source{Archive: "odd"})
	l := append(sample.Composites(), odd)
	for _, c := range []struct {
		b    []byte
		want int
	}{
		{nil, 400},
		{[]byte("GET /all.json HTTP/1.1\r\n\r\n"), 400},
		{bytes.Repeat([]byte("GET "), 4000), 400},
		{request("POST", "/all.json"), 405},
		{request("BREW", "/none"), 405},
		{request("GET", "/none"), 404},
		{request("GET", "/none.json"), 404},
		{request("GET", "/all/6/0/0.mvt"), 404},
		{request("GET", "/lands/0/0/0.mvt"), 404},
		{request("GET", "/all/1/2/0.mvt"), 400},
		{request("GET", "/all/1/0/9999999999.mvt"), 400},
		{request("GET", "/bad/0/0/0.mvt"), 502},
		{request("GET", "/missing.json"), 502},
		{request("GET", "/tight/0/0/0.mvt"), 500},
		{request("GET", "/odd/0/0/0.mvt"), 500},
		{request("GET", "/undescribed/2/3/3.mvt"), 204},
		{request("GET", "/all/0/0/0.mvt"), 200},
		{request("HEAD", "/all.json"), 200},
		{request("GET", "/all.json", "If-None-Match: *"), 304},
	} {
		if x := serve.Respond(files, l, c.b); x.Status != c.want {
			t.Errorf("%.60q: %d", c.b, x.Status)
		}
	}
}

// spoilt returns the files with some bytes changed.
func spoilt(rnd *rand.Rand, files []api.File) []api.File {
	out := slices.Clone(files)
	for i := range out {
		out[i].Data = slices.Clone(out[i].Data)
		for range rnd.Intn(3) {
			// the first bytes, which say where all others are, are changed more often
			n := len(out[i].Data)
			if rnd.Intn(2) == 0 {
				n = min(n, 300)
			}
			out[i].Data[rnd.Intn(n)] ^= 1 << rnd.Intn(8)
		}
	}
	return out
}

func TestG1NoHistory(t *testing.T) {
	rnd := rand.New(rand.NewSource(1))
	l := sample.Composites()
	known := sample.Files()
	seen := map[int]int{}
	for range 60 {
		files := spoilt(rnd, known)
		s := proxy.New(files, l, rnd.Intn(4), rnd.Intn(2000))
		for range 40 {
			id := l[rnd.Intn(len(l))].ID
			path := "/" + id + ".json"
			if z := rnd.Intn(7); z < 6 {
				path = tilePath(id, sample.Place(z, rnd.Intn(1<<z+1), rnd.Intn(1<<z)))
			}
			b := request([]string{"GET", "GET", "HEAD", "PUT"}[rnd.Intn(4)], path, []string{"X: y", "Accept-Encoding: gzip", "If-None-Match: *"}[rnd.Intn(3)])
			if rnd.Intn(10) == 0 {
				b[rnd.Intn(len(b))] ^= 1 << rnd.Intn(8)
			}
			x := s.Do(b)
			if !same(x, serve.Respond(files, l, b)) || serve.Reason(x.Status) == "" {
				t.Fatalf("%q %d", b, x.Status)
			}
			seen[x.Status]++
		}
	}
	for _, status := range []int{200, 304, 400, 404, 405, 500, 502} {
		if seen[status] == 0 {
			t.Error(status, seen)
		}
	}
}

const extent = 32

// base returns a tile whose lines and rings run along the grid, so that they are clipped at integers.
func base(rnd *rand.Rand) []api.Layer {
	n := func() int { return rnd.Intn(extent+9) - 4 }
	x := api.Layer{Name: "road", Extent: extent}
	var points []api.Pt
	for range 9 {
		points = append(points, api.Pt{X: n(), Y: n()})
	}
	x.Features = append(x.Features, api.Feature{HasID: true, ID: 3, Type: api.GeoPoint, Paths: [][]api.Pt{points}, Attrs: []api.Attr{sample.Text("name", "points")}})
	for i := range 6 {
		a, b, c, d := n(), n(), n(), n()
		if a == c || b == d {
			continue
		}
		x.Features = append(x.Features, api.Feature{HasID: true, ID: uint64(10 + i), Type: api.GeoPoly, Paths: [][]api.Pt{sample.Points(a, b, c, b, c, d, a, d)}, Attrs: []api.Attr{sample.Number("id", api.ValInt, uint64(i))}})
	}
	return []api.Layer{x}
}

func world(l []api.Layer) ([]api.File, []api.Composite) {
	b := sample.Archive(true, 0, 0, sample.RoadMeta, func(api.Place) []byte { return sample.Tile(l...) })
	c := sample.One("w", "world")
	c.Buffer = 16
	return []api.File{{Name: "world", Data: b}}, []api.Composite{c}
}

func served(t *testing.T, files []api.File, l []api.Composite, p api.Place) []api.Layer {
	x := serve.Respond(files, l, request("GET", tilePath(l[0].ID, p)))
	layers, e := tile.Get(x.Body)
	if x.Status != api.StOK && x.Status != api.StNone || e != api.OK {
		t.Fatal(p, x.Status, e)
	}
	return layers
}

func byID(l []api.Layer, id uint64) (api.Feature, bool) {
	for _, x := range l {
		for _, f := range x.Features {
			if f.ID == id {
				return f, true
			}
		}
	}
	return api.Feature{}, false
}

// doubled lets half coordinates be told as integers.
func doubled(l []api.Pt, up int) []api.Pt {
	var out []api.Pt
	for _, p := range l {
		out = append(out, api.Pt{X: 2 * p.X << up, Y: 2 * p.Y << up})
	}
	return out
}

func TestG2Overzooming(t *testing.T) {
	rnd := rand.New(rand.NewSource(2))
	const buffer = extent / 4
	for range 20 {
		l := base(rnd)
		files, list := world(l)
		z := 1 + rnd.Intn(3)
		p := sample.Place(z, rnd.Intn(1<<z), rnd.Intn(1<<z))
		got := served(t, files, list, p)
		zoom := api.Zoom{Up: z, X: p.X, Y: p.Y, Buffer: buffer}
		var points []api.Pt
		for _, q := range l[0].Features[0].Paths[0] {
			s := over.Scale(q, zoom, extent)
			if s.X >= -buffer && s.Y >= -buffer && s.X <= extent+buffer && s.Y <= extent+buffer {
				points = append(points, s)
			}
		}
		f, ok := byID(got, 3)
		if ok != (len(points) > 0) || ok && (!slices.Equal(f.Paths[0], points) || f.Attrs[0] != l[0].Features[0].Attrs[0]) {
			t.Fatal(p, f, points)
		}
		for _, f := range l[0].Features[1:] {
			g, there := byID(got, f.ID)
			if there && !slices.Equal(f.Attrs, g.Attrs) {
				t.Fatal(g)
			}
			checkWinding(t, rnd, f, g, zoom)
		}
	}
}

// checkWinding compares the winding numbers of rings before and after at places that are no grid points.
func checkWinding(t *testing.T, rnd *rand.Rand, f, g api.Feature, z api.Zoom) {
	for range 60 {
		q := api.Pt{X: 2*rnd.Intn(2*extent) - extent + 1, Y: 2*rnd.Intn(2*extent) - extent + 1}
		n := 0
		for _, l := range g.Paths {
			k, _ := wind.Around(doubled(l, 0), q)
			n += k
		}
		origin := api.Pt{X: q.X + 2*z.X*extent, Y: q.Y + 2*z.Y*extent}
		want, _ := wind.Around(doubled(f.Paths[0], z.Up), origin)
		if q.X < -2*z.Buffer || q.Y < -2*z.Buffer || q.X > 2*(extent+z.Buffer) || q.Y > 2*(extent+z.Buffer) {
			want = 0
		}
		if n != want {
			t.Fatal(f.Paths, g.Paths, z, q, n, want)
		}
	}
}

func TestG3TwoSteps(t *testing.T) {
	rnd := rand.New(rand.NewSource(3))
	met := 0
	for range 10 {
		files, list := world(base(rnd))
		step := sample.Archive(rnd.Intn(2) == 0, 2, 2, sample.RoadMeta, func(p api.Place) []byte {
			return serve.Respond(files, list, request("GET", tilePath("w", p))).Body
		})
		if len(step) == 0 {
			t.Fatal("no archive")
		}
		through := []api.File{{Name: "world", Data: step}}
		for range 60 {
			z := 2 + rnd.Intn(4)
			p := sample.Place(z, rnd.Intn(1<<z), rnd.Intn(1<<z))
			f, ok := byID(served(t, files, list, p), 3)
			g, there := byID(served(t, through, list, p), 3)
			if ok != there || ok && (!slices.Equal(f.Paths[0], g.Paths[0]) || !slices.Equal(f.Attrs, g.Attrs)) {
				t.Fatal(p, f, g)
			}
			if ok {
				met++
			}
		}
	}
	if met < 50 {
		t.Error(met)
	}
}

func TestG4Combination(t *testing.T) {
	files, l := sample.Files(), sample.Composites()
	p := sample.Place(1, 1, 0)
	got := served(t, files, l, p)
	if len(got) != 2 || got[0].Name != "road" || got[0].Extent != 64 || got[1].Name != "area" || got[1].Extent != 32 {
		t.Fatal(got)
	}
	zoom := api.Zoom{Buffer: 4}
	road, _ := over.Layer(sample.Roads(p)[0], zoom)
	zoom.Buffer = 2
	lands, _ := over.Layer(sample.Lands()[1], zoom)
	grown, _ := over.Grow(lands, 64)
	want := slices.Concat(road.Features, grown.Features)
	want[0].Attrs = []api.Attr{sample.Number("id", api.ValInt, 7), sample.Text("name", "main"), sample.Number("pop", api.ValInt, 12), sample.Text("kind", "x")}
	want[1].Attrs = []api.Attr{sample.Number("id", api.ValUint, 8), sample.Text("kind", "y")}
	if !tile.Same(got[:1], []api.Layer{{Name: "road", Extent: 64, Features: want}}) {
		t.Error(got[0])
	}
}

func TestG5Served(t *testing.T) {
	files, l := sample.Files(), sample.Composites()
	if !conf.Right(l) {
		t.Fatal("settings")
	}
	for _, c := range l[:2] {
		doc := serve.Respond(files, l, request("GET", "/"+c.ID+".json"))
		x, _, _ := json.Parse(string(doc.Body))
		low, high, _ := comp.Range(files, c)
		least, _ := json.Get(x, "minzoom")
		most, _ := json.Get(x, "maxzoom")
		if json.Text(least) != fmt.Sprint(low) || json.Text(most) != fmt.Sprint(high) {
			t.Fatal(json.Text(x))
		}
		for z := range 8 {
			for n := range 1 << z {
				p := sample.Place(z, n, (n*7+3)%(1<<z))
				checkServed(t, files, l, c, p, doc.Body)
			}
		}
	}
}

func checkServed(t *testing.T, files []api.File, l []api.Composite, c api.Composite, p api.Place, doc []byte) {
	path := tilePath(c.ID, p)
	plain := serve.Respond(files, l, request("GET", path))
	low, high, _ := comp.Range(files, c)
	if plain.Status != api.StOK {
		return
	}
	layers, e := tile.Get(plain.Body)
	put, _ := tile.Put(layers)
	if e != api.OK || !bytes.Equal(put, plain.Body) || p.Z < low || p.Z > high || !audit.Agrees(plain.Body, doc) {
		t.Fatal(path, e)
	}
	for _, more := range []string{"", "Accept-Encoding: gzip"} {
		lines := strings.Fields(more)
		if more != "" {
			lines = []string{more}
		}
		b := request("GET", path, lines...)
		r, _ := req.Parse(b)
		x := serve.Respond(files, l, b)
		if finding := audit.Response(r, true, c.Buffer, c.Limit, x); finding != "" {
			t.Fatal(path, finding)
		}
		if body, e := gzip.Unwrap(x.Body, api.MaxData); more != "" && (e != api.OK || !bytes.Equal(body, plain.Body)) {
			t.Fatal(path, e)
		}
		tag, _ := audit.Head(x, "ETag")
		for known, want := range map[string]int{tag: 304, `"other"`: 200} {
			if y := serve.Respond(files, l, request("GET", path, append(slices.Clone(lines), "If-None-Match: "+known)...)); y.Status != want {
				t.Fatal(path, known, y.Status)
			}
		}
	}
}
