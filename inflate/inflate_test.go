package inflate

import (
	"bytes"
	"compress/flate"
	"io"
	"math/rand"
	"slices"
	"testing"

	"portolan/api"
	"portolan/bitio"
	"portolan/huff"
)

func packed(t *testing.T, b []byte, level int) []byte {
	var out bytes.Buffer
	w, err := flate.NewWriter(&out, level)
	if err != nil {
		t.Fatal(err)
	}
	w.Write(b)
	w.Close()
	return out.Bytes()
}

func text(n int, letters int) []byte {
	rnd := rand.New(rand.NewSource(int64(n)))
	b := make([]byte, n)
	for i := range b {
		b[i] = byte(rnd.Intn(letters))
		if i > 40 && rnd.Intn(3) == 0 {
			b[i] = b[i-40]
		}
	}
	return b
}

func TestP4_1Length(t *testing.T) {
	bases := []int{3, 4, 5, 6, 7, 8, 9, 10, 11, 13, 15, 17, 19, 23, 27, 31, 35, 43, 51, 59, 67, 83, 99, 115, 131, 163, 195, 227, 258}
	extras := []int{0, 0, 0, 0, 0, 0, 0, 0, 1, 1, 1, 1, 2, 2, 2, 2, 3, 3, 3, 3, 4, 4, 4, 4, 5, 5, 5, 5, 0}
	for i := range bases {
		if b, x := Length(257 + i); b != bases[i] || x != extras[i] {
			t.Error(257+i, b, x)
		}
	}
	for _, n := range []int{-1, 0, 256, 286, 287, 1 << 62, -1 << 63} {
		if b, x := Length(n); b != 0 || x != 0 {
			t.Error(n, b, x)
		}
	}
}

func TestP4_1Distance(t *testing.T) {
	bases := []int{1, 2, 3, 4, 5, 7, 9, 13, 17, 25, 33, 49, 65, 97, 129, 193, 257, 385, 513, 769, 1025, 1537, 2049, 3073, 4097, 6145, 8193, 12289, 16385, 24577}
	for i := range bases {
		extra := max(0, i/2-1)
		if b, x := Distance(i); b != bases[i] || x != extra {
			t.Error(i, b, x)
		}
	}
	for _, n := range []int{-1, 30, 31, 1 << 62, -1 << 63} {
		if b, x := Distance(n); b != 0 || x != 0 {
			t.Error(n, b, x)
		}
	}
}

func TestP4_1Order(t *testing.T) {
	if !slices.Equal(Order(), []int{16, 17, 18, 0, 8, 7, 9, 6, 10, 5, 11, 4, 12, 3, 13, 2, 14, 1, 15}) {
		t.Error(Order())
	}
	Order()[0] = 0
	if Order()[0] != 16 {
		t.Error("not new")
	}
}

func TestP4_2Data(t *testing.T) {
	out, used, e := Data([]byte{0x4b, 0x4c, 0x4a, 0x06, 0x00}, 3)
	if string(out) != "abc" || used != 5 || e != api.OK {
		t.Error(out, used, e)
	}
	for _, level := range []int{flate.NoCompression, flate.BestSpeed, flate.BestCompression, flate.HuffmanOnly} {
		for _, n := range []int{0, 1, 300, 5000, 200000, api.MaxData} {
			want := text(n, 1+n%200)
			b := packed(t, want, level)
			out, used, e := Data(b, n)
			if !bytes.Equal(out, want) || used != len(b) || e != api.OK {
				t.Error(level, n, used, len(b), e)
			}
			if n == 0 {
				continue
			}
			if out, used, e := Data(b, n-1); len(out) != 0 || used != 0 || e != api.ErrLong {
				t.Error(level, n, used, e)
			}
			if out, used, e := Data(b[:len(b)-1], n); len(out) != 0 || used != 0 || e != api.ErrShort {
				t.Error(level, n, used, e)
			}
		}
	}
}

func TestP4_2Most(t *testing.T) {
	for _, most := range []int{-1, api.MaxData + 1, -1 << 63} {
		if _, _, e := Data(nil, most); e != api.ErrArg {
			t.Error(most, e)
		}
	}
	if _, _, e := Data(nil, api.MaxData); e != api.ErrShort {
		t.Error(e)
	}
}

// field is a number of some bits; turned, its most significant bit comes first.
type field struct {
	v, n   int
	turned bool
}

func stream(fields ...field) []byte {
	w := bitio.NewWriter()
	for _, f := range fields {
		if f.turned {
			w.Turned(uint32(f.v), f.n)
		} else {
			w.Bits(uint32(f.v), f.n)
		}
	}
	return w.Bytes()
}

func TestP4_2Stored(t *testing.T) {
	for _, c := range []struct {
		b    []byte
		most int
		out  string
		used int
		e    api.Errno
	}{
		{[]byte{1, 0, 0, 0xff, 0xff}, 0, "", 5, api.OK},
		{[]byte{0xf9, 2, 0, 0xfd, 0xff, 'a', 'b', 'c'}, 2, "ab", 7, api.OK},
		{[]byte{0, 1, 0, 0xfe, 0xff, 'a', 1, 1, 0, 0xfe, 0xff, 'b'}, 9, "ab", 12, api.OK},
		{[]byte{1, 2, 0, 0xfd, 0xff, 'a', 'b'}, 1, "", 0, api.ErrLong},
		{[]byte{1, 2, 0, 0xfd, 0xff, 'a'}, 1, "", 0, api.ErrShort},
		{[]byte{1, 2, 0, 0xfd, 0xff, 'a'}, 0, "", 0, api.ErrLong},
		{[]byte{1, 2, 0, 0xfd, 0xff}, 0, "", 0, api.ErrShort},
		{[]byte{1, 2, 0, 0xfc, 0xff, 'a', 'b'}, 9, "", 0, api.ErrForm},
		{[]byte{1, 2, 0, 0xfc}, 9, "", 0, api.ErrShort},
		{[]byte{1, 2}, 9, "", 0, api.ErrShort},
		{[]byte{1}, 9, "", 0, api.ErrShort},
		{[]byte{0, 0, 0, 0xff, 0xff}, 9, "", 0, api.ErrShort},
		{[]byte{7}, 9, "", 0, api.ErrForm},
		{[]byte{6}, 9, "", 0, api.ErrForm},
		{nil, 9, "", 0, api.ErrShort},
	} {
		out, used, e := Data(c.b, c.most)
		if string(out) != c.out || used != c.used || e != c.e {
			t.Errorf("%x %d: %q %d %d", c.b, c.most, out, used, e)
		}
	}
}

func TestP4_2DynamicHeader(t *testing.T) {
	head := []field{{v: 1, n: 1}, {v: 2, n: 2}}
	dyn := func(more ...field) []byte { return stream(append(slices.Clone(head), more...)...) }
	// lengths of one bit for the code length symbols 0 and 18, or 16 and 1
	zeros := []field{{v: 0, n: 5}, {v: 0, n: 5}, {v: 0, n: 4}, {v: 0, n: 3}, {v: 0, n: 3}, {v: 1, n: 3}, {v: 1, n: 3}}
	ones := []field{{v: 0, n: 5}, {v: 0, n: 5}, {v: 14, n: 4}, {v: 1, n: 3}, {v: 0, n: 3}, {v: 0, n: 3}}
	for range 14 {
		ones = append(ones, field{n: 3})
	}
	ones = append(ones, field{v: 1, n: 3})
	full := slices.Concat(zeros, []field{{v: 1, n: 1}, {v: 127, n: 7}})
	for i, c := range []struct {
		b []byte
		e api.Errno
	}{
		{dyn(field{v: 30, n: 5}, field{v: 0, n: 5}), api.ErrForm},
		{dyn(field{v: 29, n: 5}, field{v: 30, n: 5}), api.ErrForm},
		{dyn(field{v: 30, n: 5}), api.ErrShort},
		{dyn(field{v: 29, n: 5}, field{v: 29, n: 5}, field{v: 0, n: 3}), api.ErrShort},
		{dyn(field{n: 5}, field{n: 5}, field{n: 4}, field{n: 12}), api.ErrForm},
		{dyn(append(slices.Clone(ones), field{v: 1, n: 1})...), api.ErrForm},
		{dyn(full...), api.ErrShort},
		{dyn(append(slices.Clone(full), field{v: 1, n: 1}, field{v: 127, n: 7})...), api.ErrForm},
		{dyn(append(slices.Clone(full), field{v: 1, n: 1}, field{v: 109, n: 7})...), api.ErrForm},
	} {
		if out, used, e := Data(c.b, 9); len(out) != 0 || used != 0 || e != c.e {
			t.Error(i, used, e)
		}
	}
}

// TestP4_2DynamicCodes builds a block whose codes are stated by the lengths 0 to 2, and no repetitions.
func TestP4_2DynamicCodes(t *testing.T) {
	block := func(lits, dists []int, body ...field) []byte {
		w := bitio.NewWriter()
		w.Bits(1, 1)
		w.Bits(2, 2)
		w.Bits(uint32(len(lits)-257), 5)
		w.Bits(uint32(len(dists)-1), 5)
		w.Bits(14, 4)
		lens := make([]int, 19)
		lens[0], lens[1], lens[2], lens[3] = 2, 2, 2, 2
		for _, sym := range Order()[:18] {
			w.Bits(uint32(lens[sym]), 3)
		}
		c, _ := huff.New(lens, false)
		for _, n := range slices.Concat(lits, dists) {
			c.Write(w, n)
		}
		for _, f := range body {
			w.Turned(uint32(f.v), f.n)
		}
		return w.Bytes()
	}
	lits := make([]int, 258)
	lits['a'], lits[256], lits[257] = 1, 2, 2 // 0, 10, 11
	noEnd := make([]int, 258)
	noEnd['a'], noEnd[257] = 1, 1
	part := make([]int, 257)
	part[256] = 1
	for i, c := range []struct {
		b   []byte
		out string
		e   api.Errno
	}{
		{block(lits, []int{1}, field{v: 0, n: 1}, field{v: 3, n: 2}, field{v: 0, n: 1}, field{v: 2, n: 2}), "aaaa", api.OK},
		{block(lits, []int{1, 1}, field{v: 0, n: 1}, field{v: 3, n: 2}, field{v: 1, n: 1}, field{v: 2, n: 2}), "", api.ErrForm},
		{block(lits, []int{0}, field{v: 0, n: 1}, field{v: 2, n: 2}), "a", api.OK},
		{block(lits, []int{0}, field{v: 3, n: 2}, field{v: 0, n: 30}), "", api.ErrForm},
		{block(lits, []int{2}, field{v: 2, n: 2}), "", api.ErrForm},
		{block(lits, []int{1, 1, 1}, field{v: 2, n: 2}), "", api.ErrForm},
		{block(noEnd, []int{0}, field{v: 0, n: 2}), "", api.ErrForm},
		{block(part, []int{0}, field{v: 0, n: 2}), "", api.ErrForm},
	} {
		if out, _, e := Data(c.b, 9); string(out) != c.out || e != c.e {
			t.Errorf("%d: %q %d", i, out, e)
		}
	}
}

func TestP4_3Symbols(t *testing.T) {
	a := field{v: 0x30 + 'a', n: 8, turned: true}
	end := field{v: 0, n: 7, turned: true}
	three := field{v: 1, n: 7, turned: true}
	fixed := func(l ...field) []byte { return stream(append([]field{{v: 1, n: 1}, {v: 1, n: 2}}, l...)...) }
	far := func(n int) field { return field{v: n, n: 5, turned: true} }
	for i, c := range []struct {
		b    []byte
		most int
		out  string
		e    api.Errno
	}{
		{fixed(a, three, far(0), end), 4, "aaaa", api.OK},
		{fixed(a, three, far(0), end), 3, "", api.ErrLong},
		{fixed(a, a, three, far(1), end), 5, "aaaaa", api.OK},
		{fixed(a, three, far(1), end), 3, "", api.ErrForm},
		{fixed(three, far(0), end), 9, "", api.ErrForm},
		{fixed(a, three, far(30), end), 9, "", api.ErrForm},
		{fixed(a, three, far(31), end), 9, "", api.ErrForm},
		{fixed(a, field{v: 0xc6, n: 8, turned: true}), 9, "", api.ErrForm},
		{fixed(a, field{v: 0xc7, n: 8, turned: true}), 9, "", api.ErrForm},
		{fixed(a, three), 9, "", api.ErrShort},
		{fixed(a, a, a, a), 3, "", api.ErrLong},
		{fixed(a, field{v: 9, n: 7, turned: true}, field{v: 1, n: 1}, far(0), end), 20, "aaaaaaaaaaaaa", api.OK},
		{fixed(a, field{v: 0xc5, n: 8, turned: true}, far(0), end), 259, string(bytes.Repeat([]byte("a"), 259)), api.OK},
		{fixed(a, three, far(4), field{v: 1, n: 1}, end), 9, "", api.ErrForm},
		{fixed(a, a, a, a, a, a, three, far(4), field{v: 1, n: 1}, end), 9, "aaaaaaaaa", api.OK},
	} {
		if out, _, e := Data(c.b, c.most); string(out) != c.out || e != c.e {
			t.Errorf("%d: %q %d", i, out, e)
		}
	}
	b := slices.Concat([]byte{0, 1, 0, 0xfe, 0xff, 'x'}, fixed(three, far(0), end))
	if out, _, e := Data(b, 9); string(out) != "xxxx" || e != api.OK {
		t.Errorf("%q %d", out, e)
	}
}

func TestP4_4BytesBehind(t *testing.T) {
	for _, n := range []int{0, 50, 5000, 60000} {
		want := text(n, 90)
		b := packed(t, want, 9)
		for _, tail := range []int{1, 100, 1 << 20} {
			out, used, e := Data(append(slices.Clone(b), text(tail, 256)...), n)
			if !bytes.Equal(out, want) || used != len(b) || e != api.OK {
				t.Error(n, tail, used, e)
			}
		}
	}
}

// TestP4_2Garbage holds the verdict on damaged data against the library's.
func TestP4_2Garbage(t *testing.T) {
	rnd := rand.New(rand.NewSource(4))
	for i := range 3000 {
		b := packed(t, text(rnd.Intn(300), 20), 1+rnd.Intn(9))
		b[rnd.Intn(len(b))] ^= 1 << rnd.Intn(8)
		want, err := io.ReadAll(flate.NewReader(bytes.NewReader(b)))
		out, _, e := Data(b, api.MaxData)
		if (err == nil) != (e == api.OK) || err == nil && !bytes.Equal(out, want) {
			t.Error(i, err, e)
		}
	}
}
