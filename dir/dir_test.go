package dir

import (
	"math/rand"
	"slices"
	"testing"

	"portolan/api"
	"portolan/wire"
)

const top = 1<<64 - 1

func entry(id, off, size, run uint64) api.Entry {
	return api.Entry{ID: id, Off: off, Len: size, Run: run}
}

func varints(l ...uint64) []byte {
	var b []byte
	for _, v := range l {
		b = wire.PutVarint(b, v)
	}
	return b
}

func TestP12_1Right(t *testing.T) {
	many := func(n int) []api.Entry {
		l := make([]api.Entry, n)
		for i := range l {
			l[i] = entry(uint64(i), 0, 1, 1)
		}
		return l
	}
	for i, c := range []struct {
		l  []api.Entry
		ok bool
	}{
		{nil, false},
		{[]api.Entry{entry(0, 0, 1, 0)}, true},
		{[]api.Entry{entry(1<<62-1, api.MaxFile, api.MaxFile, 1<<32-1)}, true},
		{[]api.Entry{entry(1<<62, 0, 1, 1)}, false},
		{[]api.Entry{entry(0, api.MaxFile+1, 1, 1)}, false},
		{[]api.Entry{entry(0, 0, api.MaxFile+1, 1)}, false},
		{[]api.Entry{entry(0, 0, 0, 1)}, false},
		{[]api.Entry{entry(0, 0, 1, 1<<32)}, false},
		{[]api.Entry{entry(5, 0, 1, 2), entry(7, 0, 1, 1)}, true},
		{[]api.Entry{entry(5, 0, 1, 2), entry(6, 0, 1, 1)}, false},
		{[]api.Entry{entry(5, 0, 1, 0), entry(5, 0, 1, 1)}, false},
		{[]api.Entry{entry(5, 0, 1, 0), entry(6, 0, 1, 1)}, true},
		{[]api.Entry{entry(5, 0, 1, 1), entry(4, 0, 1, 1)}, false},
		{many(api.MaxEntries), true},
		{many(api.MaxEntries + 1), false},
	} {
		if Right(c.l) != c.ok {
			t.Error(i)
		}
		if b, e := Put(c.l); (e == api.OK) != c.ok || !c.ok && (e != api.ErrForm || len(b) > 0) {
			t.Error(i, e)
		}
	}
}

func TestP12_1Same(t *testing.T) {
	a := []api.Entry{entry(1, 2, 3, 4), entry(9, 9, 9, 9)}
	for i, b := range [][]api.Entry{{entry(0, 2, 3, 4), a[1]}, {entry(1, 0, 3, 4), a[1]}, {entry(1, 2, 0, 4), a[1]}, {entry(1, 2, 3, 0), a[1]}, a[:1], nil} {
		if Same(a, b) || Same(b, a) {
			t.Error(i)
		}
	}
	if !Same(a, slices.Clone(a)) || !Same(nil, []api.Entry{}) {
		t.Error("Same")
	}
}

func TestP12_2Put(t *testing.T) {
	for _, c := range []struct {
		l []api.Entry
		b string
	}{
		{[]api.Entry{entry(5, 0, 10, 1), entry(7, 10, 3, 2)}, "\x02\x05\x02\x01\x02\x0a\x03\x01\x00"},
		{[]api.Entry{entry(0, 300, 1, 0)}, "\x01\x00\x00\x01\xad\x02"},
		{[]api.Entry{entry(0, 5, 1, 1), entry(1, 5, 1, 1), entry(2, 6, 1, 1)}, "\x03\x00\x01\x01\x01\x01\x01\x01\x01\x01\x06\x06\x00"},
	} {
		if b, e := Put(c.l); string(b) != c.b || e != api.OK {
			t.Errorf("%v: %x %d", c.l, b, e)
		}
		if l, e := Get([]byte(c.b)); !Same(l, c.l) || e != api.OK {
			t.Errorf("%x: %v %d", c.b, l, e)
		}
	}
}

func TestP12_2Get(t *testing.T) {
	for i, c := range []struct {
		b []byte
		e api.Errno
	}{
		{nil, api.ErrShort},
		{varints(0), api.ErrForm},
		{varints(1), api.ErrShort},
		{varints(1, 5), api.ErrShort},
		{varints(1, 5, 1), api.ErrShort},
		{varints(1, 5, 1, 1), api.ErrShort},
		{varints(1, 5, 1, 1, 1), api.OK},
		{varints(1, 5, 1, 1, 0), api.ErrForm},
		{varints(2, 5, 1, 1, 1, 1, 1, 0), api.ErrForm},
		{varints(2, 5, 1, 1, 1, 1, 1, 1), api.ErrShort},
		{varints(1, 5, 1, 1, 1, 0), api.ErrForm},
		{varints(1, 1<<62, 1, 1, 1), api.ErrForm},
		{varints(2, 5, 0, 1, 1, 1, 1, 1, 1), api.ErrForm},
		{varints(2, 5, top, 1, 1, 1, 1, 1, 1), api.ErrForm},
		{varints(api.MaxEntries+1, 5), api.ErrMany},
		{varints(top), api.ErrMany},
		{varints(api.MaxEntries, 5), api.ErrShort},
		{[]byte{1, 0xff, 0xff, 0xff, 0xff, 0xff, 0xff, 0xff, 0xff, 0xff, 2, 0x80}, api.ErrForm},
		{[]byte{1, 5, 0x80}, api.ErrShort},
		{[]byte{0x80}, api.ErrShort},
		{varints(2, 5, 1, 1, 1, api.MaxFile, 1, api.MaxFile+1, 0), api.ErrForm},
	} {
		if l, e := Get(c.b); e != c.e || e != api.OK && len(l) > 0 {
			t.Error(i, l, e)
		}
	}
	// sums wrap round: 5 + (2^64 - 1) is 4, which is less than the ID before
	if l, e := Get(varints(2, 5, 1<<63, 1, 1, 1, 1, 1, 1)); e != api.ErrForm {
		t.Error(l, e)
	}
}

func TestP12_3Find(t *testing.T) {
	l := []api.Entry{entry(5, 0, 1, 2), entry(9, 1, 1, 0), entry(20, 2, 1, 1)}
	for id, want := range map[uint64]int{0: -1, 4: -1, 5: 0, 6: 0, 7: -1, 8: -1, 9: 1, 10: 1, 19: 1, 20: 2, 21: -1, top: -1} {
		x, ok := Find(l, id)
		if ok != (want >= 0) || ok && x != l[want] || !ok && x != (api.Entry{}) {
			t.Error(id, x, ok)
		}
	}
	if x, ok := Find([]api.Entry{entry(5, 0, 0, 1)}, 5); ok || x != (api.Entry{}) {
		t.Error("not valid")
	}
	if _, ok := Find(nil, 0); ok {
		t.Error("empty")
	}
	if _, ok := Find(l[1:2], top); !ok {
		t.Error("a directory")
	}
}

func TestP12_4RoundTrip(t *testing.T) {
	rnd := rand.New(rand.NewSource(12))
	for range 500 {
		var l []api.Entry
		id := uint64(0)
		for range 1 + rnd.Intn(20) {
			x := entry(id+rnd.Uint64()>>uint(4+rnd.Intn(60)), uint64(rnd.Intn(50)), uint64(1+rnd.Intn(9)), uint64(rnd.Intn(4)))
			if len(l) > 0 && rnd.Intn(2) == 0 {
				x.Off = l[len(l)-1].Off + l[len(l)-1].Len
			}
			l = append(l, x)
			id = x.ID + max(1, x.Run)
		}
		if !Right(l) {
			continue
		}
		b, e := Put(l)
		m, f := Get(b)
		if !Same(l, m) || e != api.OK || f != api.OK {
			t.Fatal(l, m, e, f)
		}
	}
	for range 100000 {
		b := make([]byte, 5+rnd.Intn(6))
		for i := range b {
			b[i] = byte(rnd.Intn(4)) | byte(rnd.Intn(9)/8*128)
		}
		if l, e := Get(b); e == api.OK {
			z, _ := Put(l)
			m, _ := Get(z)
			if len(z) > len(b) || !Same(l, m) {
				t.Fatalf("%x %x", b, z)
			}
		}
	}
}
