package bitio

import (
	"bytes"
	"math/rand"
	"testing"

	"portolan/api"
)

func TestP1_1Reader(t *testing.T) {
	r := NewReader([]byte{0x1d, 0xef, 0xbe, 0xad, 0xde, 0x80})
	for _, c := range []struct {
		n    int
		v    uint32
		left int
	}{{1, 1, 47}, {2, 2, 45}, {0, 0, 45}, {3, 3, 42}} {
		v, e := r.Bits(c.n)
		if v != c.v || e != api.OK || r.Left() != c.left || r.At() != 48-c.left {
			t.Error(c, v, e, r.Left(), r.At())
		}
	}
	if r.Align() != 2 || r.At() != 8 || r.Align() != 0 || r.At() != 8 {
		t.Error("Align", r.At())
	}
	if v, e := r.Bits(32); v != 0xdeadbeef || e != api.OK {
		t.Error(v, e)
	}
	for _, n := range []int{-1, 33, 1 << 40, -1 << 63} {
		if v, e := r.Bits(n); v != 0 || e != api.ErrArg || r.At() != 40 {
			t.Error(n, v, e)
		}
	}
	if v, e := r.Bits(9); v != 0 || e != api.ErrShort || r.At() != 40 {
		t.Error(v, e, r.At())
	}
	if v, e := r.Bits(8); v != 0x80 || e != api.OK || r.Left() != 0 {
		t.Error(v, e)
	}
	if v, e := r.Bits(0); v != 0 || e != api.OK || r.Align() != 0 {
		t.Error(v, e)
	}
}

func TestP1_1NilReader(t *testing.T) {
	var r *Reader
	for _, n := range []int{-1, 0, 1, 33} {
		if v, e := r.Bits(n); v != 0 || e != api.ErrNil {
			t.Error(n, v, e)
		}
	}
	if r.Align() != 0 || r.Left() != 0 || r.At() != 0 {
		t.Error("nil reader")
	}
	if e := NewReader(nil); e.Left() != 0 || e.At() != 0 {
		t.Error("empty reader")
	}
}

func TestP1_1ReaderKeepsNoArgument(t *testing.T) {
	b := []byte{1, 2}
	r := NewReader(b)
	b[0] = 0xff
	if v, _ := r.Bits(16); v != 0x0201 {
		t.Error(v)
	}
}

func TestP1_2Writer(t *testing.T) {
	w := NewWriter()
	if w.Len() != 0 || len(w.Bytes()) != 0 || w.Align() != 0 {
		t.Error("not empty")
	}
	w.Bits(5, 3)
	w.Turned(1, 4)
	if b := w.Bytes(); !bytes.Equal(b, []byte{0x45}) || w.Len() != 7 {
		t.Errorf("%x", b)
	}
	if w.Align() != 1 || w.Len() != 8 || w.Align() != 0 {
		t.Error("Align", w.Len())
	}
	if w.Bits(0xffffffff, 0) != api.OK || w.Turned(0xffffffff, 0) != api.OK || w.Len() != 8 {
		t.Error("no bits")
	}
	w.Bits(0xfffffff5, 4)
	w.Turned(0xdeadbeef, 32)
	if b := w.Bytes(); !bytes.Equal(b, []byte{0x45, 0xb5, 0x57, 0xdb, 0x77, 0x0f}) || w.Len() != 44 {
		t.Errorf("%x", b)
	}
	if w.Align() != 4 || len(w.Bytes()) != 6 {
		t.Error("Align")
	}
	w.Bits(1, 1)
	if b := w.Bytes(); len(b) != 7 || b[5] != 0x0f || b[6] != 1 {
		t.Errorf("%x", b)
	}
}

func TestP1_2WriterErrors(t *testing.T) {
	w := NewWriter()
	w.Bits(1, 1)
	for _, n := range []int{-1, 33, -1 << 63} {
		if w.Bits(1, n) != api.ErrArg || w.Turned(1, n) != api.ErrArg || w.Len() != 1 {
			t.Error(n)
		}
	}
	var none *Writer
	if none.Bits(0, 33) != api.ErrNil || none.Turned(0, -1) != api.ErrNil {
		t.Error("nil writer")
	}
	if none.Align() != 0 || none.Len() != 0 || len(none.Bytes()) != 0 {
		t.Error("nil writer")
	}
}

func TestP1_2BytesAreNew(t *testing.T) {
	w := NewWriter()
	w.Bits(1, 8)
	b := w.Bytes()
	b[0] = 9
	_ = append(b, 7)
	w.Bits(2, 8)
	if !bytes.Equal(w.Bytes(), []byte{1, 2}) {
		t.Error(w.Bytes())
	}
}

func TestP1_3RoundTrip(t *testing.T) {
	rnd := rand.New(rand.NewSource(1))
	w := NewWriter()
	var vs []uint32
	var ns []int
	for range 2000 {
		v, n := rnd.Uint32(), rnd.Intn(33)
		w.Bits(v, n)
		vs, ns = append(vs, uint32(uint64(v)&(1<<n-1))), append(ns, n)
	}
	r := NewReader(w.Bytes())
	for i, n := range ns {
		if v, e := r.Bits(n); v != vs[i] || e != api.OK {
			t.Fatal(i, n, v, vs[i], e)
		}
	}
	if r.At() != w.Len() {
		t.Error(r.At(), w.Len())
	}
}
