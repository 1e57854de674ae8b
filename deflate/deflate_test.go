package deflate

import (
	"bytes"
	"compress/flate"
	"io"
	"math/rand"
	"slices"
	"testing"

	"portolan/api"
	"portolan/inflate"
)

func text(n, letters, back int) []byte {
	rnd := rand.New(rand.NewSource(int64(n)))
	b := make([]byte, n)
	for i := range b {
		b[i] = byte(rnd.Intn(letters))
		if i >= back && rnd.Intn(8) != 0 {
			b[i] = b[i-back]
		}
	}
	return b
}

func TestP5_1Sym(t *testing.T) {
	for n := 3; n <= 258; n++ {
		want := 257
		for s := 257; s <= 285; s++ {
			if b, _ := inflate.Length(s); b <= n {
				want = s
			}
		}
		base, bits := inflate.Length(want)
		if s, x, y := Sym(n); s != want || x != n-base || y != bits {
			t.Error(n, s, x, y)
		}
	}
	for _, c := range [][4]int{{3, 257, 0, 0}, {257, 284, 30, 5}, {258, 285, 0, 0}, {12, 265, 1, 1}, {2, 0, 0, 0}, {259, 0, 0, 0}, {0, 0, 0, 0}, {-1 << 63, 0, 0, 0}} {
		if s, x, y := Sym(c[0]); s != c[1] || x != c[2] || y != c[3] {
			t.Error(c, s, x, y)
		}
	}
}

func TestP5_1Far(t *testing.T) {
	for n := 1; n <= 32768; n++ {
		s, x, y := Far(n)
		base, bits := inflate.Distance(s)
		next, _ := inflate.Distance(s + 1)
		if base+x != n || y != bits || s < 29 && n >= next {
			t.Fatal(n, s, x, y)
		}
	}
	for _, c := range [][4]int{{1, 0, 0, 0}, {6, 4, 1, 1}, {256, 15, 63, 6}, {32768, 29, 8191, 13}, {0, 0, 0, 0}, {-5, 0, 0, 0}, {32769, 0, 0, 0}} {
		if s, x, y := Far(c[0]); s != c[1] || x != c[2] || y != c[3] {
			t.Error(c, s, x, y)
		}
	}
}

func TestP5_2Find(t *testing.T) {
	run := bytes.Repeat([]byte("a"), 300)
	apart := func(n int) []byte { return slices.Concat([]byte("xyz"), make([]byte, n-3), []byte("xyz")) }
	for _, c := range []struct {
		b  []byte
		at int
		m  Match
	}{
		{[]byte("abcabc"), 3, Match{3, 3}},
		{[]byte("abcabd"), 3, Match{}},
		{[]byte("aaaa"), 1, Match{3, 1}},
		{[]byte("aaa"), 1, Match{}},
		{[]byte("abcdabcabcd"), 7, Match{4, 7}},
		{[]byte("abcabcabc"), 6, Match{3, 3}},
		{run, 1, Match{258, 1}},
		{run, 42, Match{258, 1}},
		{run, 43, Match{257, 1}},
		{run, 0, Match{}},
		{run, 300, Match{}},
		{run, 301, Match{}},
		{run, -1, Match{}},
		{nil, 0, Match{}},
		{apart(256), 256, Match{3, 256}},
		{apart(257), 257, Match{}},
	} {
		if m := Find(c.b, c.at); m != c.m {
			t.Errorf("%.12q %d: %v", c.b, c.at, m)
		}
	}
}

func TestP5_2Parse(t *testing.T) {
	if l := Parse([]byte("abcabcab!")); !slices.Equal(l, []Match{{0, 'a'}, {0, 'b'}, {0, 'c'}, {5, 3}, {0, '!'}}) {
		t.Error(l)
	}
	if l := Parse(nil); len(l) != 0 {
		t.Error(l)
	}
	if l := Parse(make([]byte, 300)); !slices.Equal(l, []Match{{0, 0}, {258, 1}, {41, 1}}) {
		t.Error(l)
	}
	b := text(3000, 7, 100)
	at := 0
	for _, m := range Parse(b) {
		if m != Find(b, at) && (m.Len != 0 || Find(b, at) != Match{} || m.Dist != int(b[at])) {
			t.Fatal(at, m)
		}
		at += max(1, m.Len)
	}
	if at != len(b) {
		t.Error(at)
	}
}

func TestP5_3Fixed(t *testing.T) {
	for _, c := range []struct{ in, out string }{
		{"abc", "\x4b\x4c\x4a\x06\x00"},
		{"", "\x03\x00"},
		{"aaaaaa", "\x4b\x04\x03\x00"},
		{"\xff", "\xfb\x0f\x00"},
	} {
		if b, e := Data([]byte(c.in), false); string(b) != c.out || e != api.OK {
			t.Errorf("%q: %x %d", c.in, b, e)
		}
	}
}

func TestP5_3Stored(t *testing.T) {
	if b, e := Data([]byte("abc"), true); string(b) != "\x01\x03\x00\xfc\xffabc" || e != api.OK {
		t.Errorf("%x %d", b, e)
	}
	for n, blocks := range map[int]int{0: 1, 1: 1, 65535: 1, 65536: 2, 131070: 2, 131071: 3} {
		b, e := Data(make([]byte, n), true)
		if len(b) != n+5*blocks || e != api.OK {
			t.Error(n, len(b), e)
		}
		if last := n > 65535; last && !bytes.Equal(b[:5], []byte{0, 0xff, 0xff, 0, 0}) {
			t.Errorf("%d: %x", n, b[:5])
		}
	}
}

func TestP5_3Long(t *testing.T) {
	for _, stored := range []bool{false, true} {
		if b, e := Data(make([]byte, api.MaxData+1), stored); len(b) != 0 || e != api.ErrLong {
			t.Error(len(b), e)
		}
		if _, e := Data(make([]byte, api.MaxData), stored); e != api.OK {
			t.Error(e)
		}
	}
}

func TestP5_4RoundTrip(t *testing.T) {
	for _, c := range [][3]int{{0, 1, 1}, {1, 256, 1}, {500, 256, 600}, {5000, 4, 200}, {70000, 250, 256}, {70001, 250, 257}, {api.MaxData, 3, 13}} {
		b := text(c[0], c[1], c[2])
		for _, stored := range []bool{false, true} {
			z, e := Data(b, stored)
			out, used, f := inflate.Data(z, len(b))
			if !bytes.Equal(out, b) || used != len(z) || e != api.OK || f != api.OK {
				t.Error(c, stored, used, len(z), e, f)
			}
			if lib, err := io.ReadAll(flate.NewReader(bytes.NewReader(z))); err != nil || !bytes.Equal(lib, b) {
				t.Error(c, stored, err)
			}
		}
	}
}
