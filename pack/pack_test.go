package pack

import (
	"bytes"
	"fmt"
	"math/rand"
	"slices"
	"testing"

	"portolan/api"
	"portolan/arch"
	"portolan/dir"
	"portolan/gzip"
	"portolan/hilb"
)

func item(id uint64, s string) api.Item {
	p, _ := hilb.Of(id)
	return api.Item{At: p, Data: []byte(s)}
}

func entry(id, off, size, run uint64) api.Entry {
	return api.Entry{ID: id, Off: off, Len: size, Run: run}
}

func spec() api.Spec {
	return api.Spec{MaxZoom: 30, Meta: "{}", Min: api.Pt{X: -3, Y: -4}, Max: api.Pt{X: 5, Y: 6}, Center: api.Pt{X: 1, Y: 2}, At: 7, MinZoom: 0}
}

func TestP14_1Entries(t *testing.T) {
	for i, c := range []struct {
		l        []api.Item
		entries  []api.Entry
		contents []string
	}{
		{[]api.Item{item(0, "a"), item(1, "a"), item(2, "b")}, []api.Entry{entry(0, 0, 1, 2), entry(2, 1, 1, 1)}, []string{"a", "b"}},
		{[]api.Item{item(2, "b"), item(1, "aa"), item(0, "aa")}, []api.Entry{entry(0, 0, 2, 2), entry(2, 2, 1, 1)}, []string{"aa", "b"}},
		{[]api.Item{item(5, "a"), item(7, "a"), item(8, "a")}, []api.Entry{entry(5, 0, 1, 1), entry(7, 0, 1, 2)}, []string{"a"}},
		{[]api.Item{item(5, "a"), item(6, "bb"), item(7, "a"), item(8, "bb")}, []api.Entry{entry(5, 0, 1, 1), entry(6, 1, 2, 1), entry(7, 0, 1, 1), entry(8, 1, 2, 1)}, []string{"a", "bb"}},
		{[]api.Item{item(4, "a"), item(5, "a")}, []api.Entry{entry(4, 0, 1, 2)}, []string{"a"}},
	} {
		l, b, e := Entries(c.l, false)
		if !dir.Same(l, c.entries) || e != api.OK || len(b) != len(c.contents) {
			t.Fatal(i, l, b, e)
		}
		for k := range b {
			if string(b[k]) != c.contents[k] {
				t.Errorf("%d %d: %q", i, k, b[k])
			}
		}
	}
	l, b, e := Entries([]api.Item{item(0, "a"), item(2, "b")}, true)
	z, _ := gzip.Wrap([]byte("a"))
	if !dir.Same(l, []api.Entry{entry(0, 0, uint64(len(z)), 1), entry(2, uint64(len(z)), uint64(len(z)), 1)}) || !bytes.Equal(b[0], z) || e != api.OK {
		t.Error(l, b, e)
	}
}

func TestP14_1Errors(t *testing.T) {
	many := func(n int) []api.Item {
		l := make([]api.Item, n)
		for i := range l {
			l[i] = item(uint64(i), "a")
		}
		return l
	}
	wrong := api.Item{At: api.Place{Z: 1, X: 2}, Data: []byte("a")}
	long := string(make([]byte, api.MaxData+1))
	for i, c := range []struct {
		l []api.Item
		e api.Errno
	}{
		{nil, api.ErrForm},
		{[]api.Item{item(0, "")}, api.ErrForm},
		{[]api.Item{item(3, "a"), item(4, "a"), item(3, "b")}, api.ErrForm},
		{[]api.Item{wrong}, api.ErrRange},
		{[]api.Item{item(0, ""), wrong}, api.ErrRange},
		{[]api.Item{wrong, wrong}, api.ErrRange},
		{append(many(api.MaxEntries+1), wrong), api.ErrRange},
		{many(api.MaxEntries), api.OK},
		{many(api.MaxEntries + 1), api.ErrMany},
		{append(many(api.MaxEntries+1), item(0, "a")), api.ErrForm},
		{append(many(api.MaxEntries), item(1<<40, long)), api.ErrMany},
		{[]api.Item{item(0, long)}, api.ErrLong},
		{[]api.Item{item(0, long[1:])}, api.OK},
		{[]api.Item{item(0, long), item(0, "a")}, api.ErrForm},
	} {
		l, b, e := Entries(c.l, false)
		if e != c.e || e != api.OK && len(l)+len(b) > 0 {
			t.Error(i, e)
		}
		if _, f := Build(c.l, spec()); f != c.e {
			t.Error(i, f)
		}
	}
}

func TestP14_1ArgumentsAreNotShared(t *testing.T) {
	l := []api.Item{item(3, "a"), item(1, "b")}
	_, b, _ := Entries(l, false)
	b[0][0] = 'z'
	if string(l[0].Data)+string(l[1].Data) != "ab" || l[0].At != item(3, "").At {
		t.Error(l)
	}
}

func TestP14_2Leaves(t *testing.T) {
	l := []api.Entry{entry(1, 0, 1, 1), entry(2, 0, 1, 1), entry(3, 0, 1, 1)}
	for n, sizes := range map[int][]int{1: {1, 1, 1}, 2: {2, 1}, 3: {3}, 4: {3}, 0: {3}, -1: {3}, 1<<63 - 1: {3}, -1 << 63: {3}} {
		parts := Leaves(l, n)
		var got []int
		for _, p := range parts {
			got = append(got, len(p))
		}
		if !slices.Equal(got, sizes) || !dir.Same(slices.Concat(parts...), l) {
			t.Error(n, parts)
		}
		parts[0][0].ID = 99
		_ = append(parts[0], entry(7, 7, 7, 7))
		if l[0].ID != 1 || l[1].ID != 2 {
			t.Fatal("shared")
		}
	}
	for _, n := range []int{0, 1, 5} {
		if len(Leaves(nil, n)) != 0 {
			t.Error(n)
		}
	}
}

func TestP14_2Empty(t *testing.T) {
	s := spec()
	want := api.Header{Clustered: true, Inner: 1, Outer: 1, Kind: 1, MaxZoom: 30, Min: s.Min, Max: s.Max, Center: s.Center, At: 7}
	if Empty(s) != want {
		t.Error(Empty(s))
	}
	s.Gzip, s.MinZoom, s.Leaf = true, 4, 9
	want.Inner, want.Outer, want.MinZoom = 2, 2, 4
	if Empty(s) != want {
		t.Error(Empty(s))
	}
}

func TestP14_3Build(t *testing.T) {
	b, e := Build([]api.Item{item(0, "a"), item(1, "a"), item(2, "b")}, spec())
	if e != api.OK {
		t.Fatal(e)
	}
	h, e := arch.Head(b)
	if e != api.OK {
		t.Fatal(e)
	}
	root, _ := dir.Put([]api.Entry{entry(0, 0, 1, 2), entry(2, 1, 1, 1)})
	n := uint64(len(root))
	want := Empty(spec())
	want.Root, want.Meta, want.Leaves, want.Data = [2]uint64{127, n}, [2]uint64{127 + n, 2}, [2]uint64{129 + n, 0}, [2]uint64{129 + n, 2}
	want.Counts = [3]uint64{3, 2, 2}
	if h != want || !bytes.Equal(b, slices.Concat(arch.PutHead(want), root, []byte("{}ab"))) {
		t.Errorf("%+v %x", h, b)
	}
}

func TestP14_3Leaves(t *testing.T) {
	l := []api.Item{item(10, "a"), item(20, "bb"), item(30, "c")}
	for _, gz := range []bool{false, true} {
		for leaf, parts := range map[int]int{-1: 0, 0: 0, 1: 3, 2: 2, 3: 0, 4: 0} {
			s := spec()
			s.Leaf, s.Gzip = leaf, gz
			b, e := Build(l, s)
			h, f := arch.Head(b)
			root, g := arch.Dir(b, h, h.Root[0], h.Root[1])
			if e != api.OK || f != api.OK || g != api.OK || (h.Inner == 2) != gz {
				t.Fatal(e, f, g, h)
			}
			if parts == 0 {
				if len(root) != 3 || h.Leaves[1] != 0 {
					t.Error(leaf, root)
				}
				continue
			}
			at := uint64(0)
			for i, x := range root {
				leaf, e := arch.Dir(b, h, h.Leaves[0]+x.Off, x.Len)
				if x.Run != 0 || x.Off != at || e != api.OK || leaf[0].ID != x.ID || x.ID != uint64(10+20*i)-uint64(10*i*(parts-2)) {
					t.Error(i, x, leaf, e)
				}
				at += x.Len
			}
			if len(root) != parts || h.Leaves[1] != at || h.Counts != [3]uint64{3, 3, 3} || h.Data[0]+h.Data[1] != uint64(len(b)) {
				t.Error(leaf, root, h)
			}
		}
	}
}

func TestP14_3Errors(t *testing.T) {
	one := []api.Item{item(0, "a")}
	for i, c := range []struct {
		change func(s *api.Spec)
		e      api.Errno
	}{
		{func(s *api.Spec) {}, api.OK},
		{func(s *api.Spec) { s.Meta = string(make([]byte, api.MaxData)) }, api.OK},
		{func(s *api.Spec) { s.Meta = string(make([]byte, api.MaxData+1)) }, api.ErrLong},
		{func(s *api.Spec) { s.Meta, s.Gzip = string(make([]byte, api.MaxData+1)), true }, api.ErrLong},
		{func(s *api.Spec) { s.MinZoom = 256 }, api.ErrForm},
		{func(s *api.Spec) { s.MinZoom, s.MaxZoom = 5, 4 }, api.ErrForm},
		{func(s *api.Spec) { s.MaxZoom = 31 }, api.ErrForm},
		{func(s *api.Spec) { s.At = 31 }, api.ErrForm},
		{func(s *api.Spec) { s.Center.X = 1 << 32 }, api.ErrForm},
	} {
		s := spec()
		c.change(&s)
		if b, e := Build(one, s); e != c.e || e != api.OK && len(b) > 0 {
			t.Error(i, e)
		}
	}
	rnd := rand.New(rand.NewSource(14))
	var big []api.Item
	for i := range 5 {
		b := make([]byte, 1000000)
		rnd.Read(b)
		big = append(big, api.Item{At: item(uint64(i), "").At, Data: b})
	}
	if _, e := Build(big[:4], spec()); e != api.OK {
		t.Error(e)
	}
	if _, e := Build(big, spec()); e != api.ErrLong {
		t.Error(e)
	}
	// the offset of the last entry is greater than MaxFile
	for _, leaf := range []int{0, 1} {
		s := spec()
		s.Leaf = leaf
		if b, e := Build(append(big, item(9, "x"), item(8, "y")), s); len(b) > 0 || e != api.ErrForm {
			t.Error(leaf, e)
		}
	}
	whole, _ := Build(big[:4], spec())
	s := spec()
	s.Meta = string(make([]byte, api.MaxFile-len(whole)+len(s.Meta)))
	if b, e := Build(big[:4], s); len(b) != api.MaxFile || e != api.OK {
		t.Error(len(b), e)
	}
	s.Meta += " "
	if b, e := Build(big[:4], s); len(b) > 0 || e != api.ErrLong {
		t.Error(len(b), e)
	}
}

func TestP14_4RoundTrip(t *testing.T) {
	rnd := rand.New(rand.NewSource(15))
	for i := range 60 {
		s := spec()
		s.Gzip, s.Leaf, s.MinZoom, s.MaxZoom = i%2 == 0, rnd.Intn(9), 1, 5
		used := map[uint64]int{}
		var l []api.Item
		for range 1 + rnd.Intn(60) {
			id := uint64(rnd.Intn(400) + 4*rnd.Intn(2)*rnd.Intn(400))
			if _, again := used[id]; !again {
				used[id] = len(l)
				l = append(l, item(id, fmt.Sprint("tile", rnd.Intn(5))))
			}
		}
		b, e := Build(l, s)
		h, f := arch.Head(b)
		if e != api.OK || f != api.OK {
			t.Fatal(e, f)
		}
		for id := range uint64(2100) {
			p, _ := hilb.Of(id)
			n, there := used[id]
			there = there && p.Z >= 1 && p.Z <= 5
			d, ok, e := arch.Tile(b, h, p)
			if ok != there || e != api.OK || ok && !bytes.Equal(d, l[n].Data) {
				t.Fatal(i, id, ok, e)
			}
		}
		if m, e := arch.Meta(b, h); string(m) != s.Meta || e != api.OK {
			t.Error(m, e)
		}
	}
}
