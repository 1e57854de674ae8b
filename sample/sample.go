// Package sample builds the archives, tables and settings that the tests of several packages share.
package sample

import (
	"portolan/api"
	"portolan/hilb"
	"portolan/pack"
	"portolan/tile"
)

// The metadata of the two archives.
const (
	RoadMeta = `{"vector_layers":[{"id":"road","fields":{"id":"Number","name":"String"}}],"attribution":"A"}`
	LandMeta = `{"vector_layers":[{"id":"land","fields":{"kind":"Boolean"}},{"id":"road","fields":{"name":"Number"}}],"attribution":"B"}`
	Table    = "id,pop,kind\n7,12,x\n8,,y\n"
)

// Points returns the points with these coordinates, X and Y in turn.
func Points(n ...int) []api.Pt {
	l := make([]api.Pt, len(n)/2)
	for i := range l {
		l[i] = api.Pt{X: n[2*i], Y: n[2*i+1]}
	}
	return l
}

// Place returns a place.
func Place(z, x, y int) api.Place {
	return api.Place{Z: z, X: x, Y: y}
}

// Text returns an attribute that is a text.
func Text(key, s string) api.Attr {
	return api.Attr{Key: key, Val: api.Value{Kind: api.ValText, Text: s}}
}

// Number returns an attribute of another kind.
func Number(key string, kind int, n uint64) api.Attr {
	return api.Attr{Key: key, Val: api.Value{Kind: kind, Bits: n}}
}

// Roads returns the layers of the first archive at a place.
func Roads(p api.Place) []api.Layer {
	return []api.Layer{{Name: "road", Extent: 64, Features: []api.Feature{
		{HasID: true, ID: uint64(100*p.Z + 10*p.X + p.Y), Type: api.GeoPoint, Paths: [][]api.Pt{Points(8, 8, 40, 40, 62, 3)},
			Attrs: []api.Attr{Number("id", api.ValInt, 7), Text("name", "main")}},
		{Type: api.GeoLine, Paths: [][]api.Pt{Points(-4, 10, 70, 30, 30, 60), Points(1, 1, 60, 60)},
			Attrs: []api.Attr{Number("id", api.ValUint, 8)}},
		{Type: api.GeoLine, Paths: [][]api.Pt{Points(5, 60, 60, 5)},
			Attrs: []api.Attr{Text("id", "9")}},
	}}}
}

// Lands returns the layers of the second archive.
func Lands() []api.Layer {
	return []api.Layer{
		{Name: "land", Extent: 32, Features: []api.Feature{
			{Type: api.GeoPoly, Paths: [][]api.Pt{Points(2, 2, 30, 2, 30, 30, 2, 30), Points(8, 8, 8, 20, 20, 20, 20, 8)},
				Attrs: []api.Attr{Number("kind", api.ValBool, 1)}},
		}},
		{Name: "road", Extent: 32, Features: []api.Feature{
			{Type: api.GeoPoint, Paths: [][]api.Pt{Points(16, 16, 3, 4)}, Attrs: []api.Attr{Text("name", "other")}},
		}},
	}
}

// Tile returns layers as bytes.
func Tile(l ...api.Layer) []byte {
	b, _ := tile.Put(l)
	return b
}

// Archive returns an archive with a tile at each place of some zoom levels.
func Archive(gz bool, low, high int, meta string, at func(p api.Place) []byte) []byte {
	var items []api.Item
	for id := hilb.First(low); id < hilb.First(high+1); id++ {
		p, _ := hilb.Of(id)
		if b := at(p); len(b) > 0 {
			items = append(items, api.Item{At: p, Data: b})
		}
	}
	b, _ := pack.Build(items, Spec(gz, low, high, meta))
	return b
}

// Spec returns how an archive is built.
func Spec(gz bool, low, high int, meta string) api.Spec {
	return api.Spec{
		Gzip:    gz,
		Leaf:    3,
		MinZoom: low,
		MaxZoom: high,
		Min:     api.Pt{X: -1000000000 - low, Y: -500000000},
		Max:     api.Pt{X: 1234567890, Y: 600000000 + high},
		Center:  api.Pt{X: 15, Y: -25000000},
		At:      9,
		Meta:    meta,
	}
}

// Files returns two archives, a table, and broken files.
func Files() []api.File {
	return []api.File{
		{Name: "roads", Data: Archive(true, 0, 2, RoadMeta, roadTile)},
		{Name: "lands", Data: Archive(false, 1, 1, LandMeta, func(api.Place) []byte { return Tile(Lands()...) })},
		{Name: "table", Data: []byte(Table)},
		{Name: "bad", Data: []byte("bad")},
		{Name: "undescribed", Data: Archive(true, 0, 2, "{}", roadTile)},
		{Name: "garbage", Data: Archive(true, 0, 2, RoadMeta, func(api.Place) []byte { return []byte("garbage") })},
		{Name: "roads", Data: []byte("a file of the same name, which is never read")},
	}
}

// roadTile leaves out a place, so that there is one without a tile.
func roadTile(p api.Place) []byte {
	if p == Place(2, 3, 3) {
		return nil
	}
	return Tile(Roads(p)...)
}

// Composites returns settings for the files.
func Composites() []api.Composite {
	roads := api.Source{Archive: "roads", Csv: "table", Join: api.Join{Key: "id", Attr: "id"}}
	lands := api.Source{Archive: "lands", Layers: [][2]string{{"land", "area"}, {"road", "road"}}}
	return []api.Composite{
		{ID: "all", Sources: []api.Source{roads, lands}, Buffer: 4, MaxZoom: 5, Limit: api.MaxData},
		{ID: "lands", Sources: []api.Source{lands}, Buffer: 0, MaxZoom: 3, Limit: api.MaxData},
		{ID: "tight", Sources: []api.Source{roads}, Buffer: 4, MaxZoom: 5, Limit: 100},
		One("bad", "bad"),
		One("missing", "missing"),
		One("undescribed", "undescribed"),
		One("garbage", "garbage"),
	}
}

// One returns a composite of a single archive.
func One(id, archive string) api.Composite {
	return api.Composite{ID: id, Sources: []api.Source{{Archive: archive}}, Buffer: 64, MaxZoom: 5, Limit: api.MaxData}
}
