package huff

import (
	"bytes"
	"testing"

	"portolan/api"
	"portolan/bitio"
)

func repeated(n, size int) []int {
	l := make([]int, n)
	for i := range l {
		l[i] = size
	}
	return l
}

func TestP3_1Kraft(t *testing.T) {
	for _, c := range []struct {
		lens []int
		n    int
		ok   bool
	}{
		{nil, 0, true},
		{[]int{0, 0}, 0, true},
		{[]int{1}, 1 << 14, true},
		{[]int{2, 1, 3, 3}, 1 << 15, true},
		{[]int{15, 15, 14}, 4, true},
		{[]int{1, 1, 1}, 3 << 14, true},
		{[]int{16}, 0, false},
		{[]int{1, -1}, 0, false},
		{repeated(288, 15), 288, true},
		{repeated(289, 15), 0, false},
		{repeated(289, 0), 0, false},
	} {
		if n, ok := Kraft(c.lens); n != c.n || ok != c.ok {
			t.Error(c, n, ok)
		}
	}
}

func TestP3_1New(t *testing.T) {
	for i, c := range []struct {
		lens        []int
		long, short api.Errno
	}{
		{[]int{2, 1, 3, 3}, api.OK, api.OK},
		{[]int{1, 1}, api.OK, api.OK},
		{nil, api.ErrForm, api.OK},
		{[]int{0, 0, 0}, api.ErrForm, api.OK},
		{[]int{0, 1, 0}, api.ErrForm, api.OK},
		{[]int{2}, api.ErrForm, api.ErrForm},
		{[]int{2, 2}, api.ErrForm, api.ErrForm},
		{[]int{1, 2}, api.ErrForm, api.ErrForm},
		{[]int{1, 1, 1}, api.ErrForm, api.ErrForm},
		{[]int{1, 1, 15}, api.ErrForm, api.ErrForm},
		{repeated(30, 5), api.ErrForm, api.ErrForm},
		{repeated(32, 5), api.OK, api.OK},
		{[]int{16}, api.ErrArg, api.ErrArg},
		{[]int{-1}, api.ErrArg, api.ErrArg},
		{repeated(289, 0), api.ErrArg, api.ErrArg},
	} {
		a, e := New(c.lens, false)
		b, f := New(c.lens, true)
		if e != c.long || f != c.short || (a != nil) != (e == api.OK) || (b != nil) != (f == api.OK) {
			t.Error(i, e, f)
		}
	}
}

func TestP3_1Of(t *testing.T) {
	c, _ := New([]int{2, 1, 3, 3, 0}, false)
	for n, w := range []struct {
		bits uint32
		size int
	}{{2, 2}, {0, 1}, {6, 3}, {7, 3}, {0, 0}, {0, 0}} {
		if bits, size := c.Of(n); bits != w.bits || size != w.size {
			t.Error(n, bits, size)
		}
	}
	if b, n := c.Of(-1); b != 0 || n != 0 {
		t.Error("no symbol")
	}
	var none *Code
	if b, n := none.Of(0); b != 0 || n != 0 {
		t.Error("nil code")
	}
	// RFC 1951, 3.2.2
	rfc, _ := New([]int{3, 3, 3, 3, 3, 2, 4, 4}, false)
	for n, w := range []uint32{2, 3, 4, 5, 6, 0, 14, 15} {
		if b, _ := rfc.Of(n); b != w {
			t.Error(n, b)
		}
	}
	gap, _ := New([]int{1, 3, 3, 3, 3}, false)
	if b, n := gap.Of(1); b != 4 || n != 3 {
		t.Error(b, n)
	}
}

func TestP3_1ArgumentIsNotKept(t *testing.T) {
	lens := []int{1, 1}
	c, _ := New(lens, false)
	lens[0] = 7
	if _, n := c.Of(0); n != 1 {
		t.Error(n)
	}
}

func TestP3_2Write(t *testing.T) {
	c, _ := New([]int{2, 1, 3, 3, 0}, false)
	w := bitio.NewWriter()
	for _, n := range []int{0, 1, 2, 3} {
		if e := c.Write(w, n); e != api.OK {
			t.Error(n, e)
		}
	}
	// 10 0 110 111, the first bit being the least significant of the first byte
	if b := w.Bytes(); !bytes.Equal(b, []byte{0xd9, 0x01}) || w.Len() != 9 {
		t.Errorf("%x", b)
	}
	for _, n := range []int{-1, 4, 5} {
		if e := c.Write(w, n); e != api.ErrRange || w.Len() != 9 {
			t.Error(n, e)
		}
	}
	var none *Code
	if none.Write(nil, 0) != api.ErrNil || c.Write(nil, 4) != api.ErrRange || c.Write(nil, 0) != api.ErrNil {
		t.Error("nil")
	}
}

func TestP3_2Read(t *testing.T) {
	c, _ := New([]int{2, 1, 3, 3}, false)
	r := bitio.NewReader([]byte{0xd9, 0x01})
	for _, want := range []int{0, 1, 2, 3, 1, 1, 1, 1, 1, 1, 1} {
		if n, e := c.Read(r); n != want || e != api.OK {
			t.Error(want, n, e)
		}
	}
	if n, e := c.Read(r); n != 0 || e != api.ErrShort {
		t.Error(n, e)
	}
	if n, e := c.Read(nil); n != 0 || e != api.ErrNil {
		t.Error(n, e)
	}
	var none *Code
	if n, e := none.Read(r); n != 0 || e != api.ErrNil {
		t.Error(n, e)
	}
}

func TestP3_2ReadNoCode(t *testing.T) {
	one, _ := New([]int{0, 1}, true)
	r := bitio.NewReader([]byte{0xfe, 0xff, 0xff})
	if n, e := one.Read(r); n != 1 || e != api.OK {
		t.Error(n, e)
	}
	if n, e := one.Read(r); n != 0 || e != api.ErrForm || r.At() != 16 {
		t.Error(n, e, r.At())
	}
	if n, e := one.Read(r); n != 0 || e != api.ErrShort || r.Left() != 0 {
		t.Error(n, e, r.Left())
	}
	empty, _ := New(nil, true)
	if n, e := empty.Read(bitio.NewReader([]byte{0, 0})); n != 0 || e != api.ErrForm {
		t.Error(n, e)
	}
}

func TestP3_3Fixed(t *testing.T) {
	lits, dists := Fixed()
	if len(lits) != 288 || len(dists) != 30 {
		t.Fatal(len(lits), len(dists))
	}
	for n, size := range map[int]int{0: 8, 143: 8, 144: 9, 255: 9, 256: 7, 279: 7, 280: 8, 287: 8} {
		if lits[n] != size {
			t.Error(n, lits[n])
		}
	}
	for _, n := range dists {
		if n != 5 {
			t.Error(n)
		}
	}
	if n, _ := Kraft(lits); n != 1<<15 {
		t.Error(n)
	}
	lits[0] = 1
	if again, _ := Fixed(); again[0] != 8 {
		t.Error("not new")
	}
}

func TestP3_4RoundTrip(t *testing.T) {
	lits, _ := Fixed()
	deep := []int{15}
	for n := 1; n <= 15; n++ {
		deep = append(deep, n)
	}
	for _, lens := range [][]int{lits, repeated(32, 5), deep, {0, 0, 1, 1}} {
		c, e := New(lens, false)
		if e != api.OK {
			t.Fatal(e)
		}
		w := bitio.NewWriter()
		for n := range lens {
			c.Write(w, n)
		}
		r := bitio.NewReader(w.Bytes())
		for n, size := range lens {
			if size == 0 {
				continue
			}
			if m, e := c.Read(r); m != n || e != api.OK {
				t.Fatal(n, m, e)
			}
		}
		if r.At() != w.Len() {
			t.Error(r.At(), w.Len())
		}
	}
}
