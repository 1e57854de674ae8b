package gzip

import (
	"bytes"
	stdgzip "compress/gzip"
	"io"
	"slices"
	"testing"
	"time"

	"portolan/api"
	"portolan/crc"
	"portolan/deflate"
)

func wrapped(t *testing.T, s string) []byte {
	b, e := Wrap([]byte(s))
	if e != api.OK {
		t.Fatal(e)
	}
	return b
}

func TestP6_1Wrap(t *testing.T) {
	want := "\x1f\x8b\x08\x00\x00\x00\x00\x00\x00\xff\x4b\x4c\x4a\x06\x00\xc2\x41\x24\x35\x03\x00\x00\x00"
	if b := wrapped(t, "abc"); string(b) != want {
		t.Errorf("%x", b)
	}
	long := bytes.Repeat([]byte("portolan"), 9000)
	b, _ := Wrap(long)
	if n := len(b); !bytes.Equal(b[n-4:], []byte{0x40, 0x19, 1, 0}) {
		t.Errorf("%x", b[n-4:])
	}
	r, err := stdgzip.NewReader(bytes.NewReader(b))
	if err != nil {
		t.Fatal(err)
	}
	if out, err := io.ReadAll(r); err != nil || !bytes.Equal(out, long) {
		t.Error(err)
	}
	if b, e := Wrap(make([]byte, api.MaxData+1)); len(b) != 0 || e != api.ErrLong {
		t.Error(e)
	}
	if _, e := Wrap(make([]byte, api.MaxData)); e != api.OK {
		t.Error(e)
	}
}

func TestP6_1Is(t *testing.T) {
	for s, want := range map[string]bool{"": false, "\x1f": false, "\x1f\x8b": true, "\x1f\x8bxx": true, "\x8b\x1f": false, "\x1f\x1f": false} {
		if Is([]byte(s)) != want {
			t.Errorf("%q", s)
		}
	}
}

// built returns a member of "abc" with these flags and optional parts, without the checksum of the header.
func built(flags byte, parts string) []byte {
	b := append([]byte{0x1f, 0x8b, 8, flags, 1, 2, 3, 4, 5, 6}, parts...)
	z, _ := deflate.Data([]byte("abc"), true)
	sum := crc.Of([]byte("abc"))
	b = append(b, z...)
	return append(b, byte(sum), byte(sum>>8), byte(sum>>16), byte(sum>>24), 3, 0, 0, 0)
}

func half(flags byte, parts string) string {
	b := built(flags, parts)
	sum := crc.Of(b[:10+len(parts)])
	return parts + string([]byte{byte(sum), byte(sum >> 8)})
}

func TestP6_2Parts(t *testing.T) {
	for _, b := range [][]byte{
		built(0, ""),
		built(1, ""),
		built(4, "\x02\x00xy"),
		built(4, "\x00\x00"),
		built(4, "\x00\x01"+string(make([]byte, 256))),
		built(8, "name\x00"),
		built(16, "\x00"),
		built(24, "name\x00remark\x00"),
		built(28, "\x01\x00\x00n\x00r\x00"),
		built(2, half(2, "")),
		built(31, half(31, "\x01\x00\x00n\x00r\x00")),
	} {
		if out, e := Unwrap(b, 3); string(out) != "abc" || e != api.OK {
			t.Errorf("%x: %q %d", b, out, e)
		}
		for n := range b {
			if out, e := Unwrap(b[:n], 3); len(out) != 0 || e != api.ErrShort {
				t.Errorf("%x: %d", b[:n], e)
			}
		}
	}
}

func TestP6_2Most(t *testing.T) {
	if out, e := Unwrap(built(0, ""), api.MaxData); string(out) != "abc" || e != api.OK {
		t.Error(out, e)
	}
	if out, e := Unwrap(wrapped(t, ""), 0); len(out) != 0 || e != api.OK {
		t.Error(out, e)
	}
}

func TestP6_2Errors(t *testing.T) {
	with := func(b []byte, at int, c byte) []byte {
		b = slices.Clone(b)
		b[(at+len(b))%len(b)] ^= c
		return b
	}
	plain := built(0, "")
	for i, c := range []struct {
		b    []byte
		most int
		e    api.Errno
	}{
		{plain, -1, api.ErrArg},
		{plain, api.MaxData + 1, api.ErrArg},
		{nil, -1, api.ErrArg},
		{nil, 0, api.ErrShort},
		{plain[:9], 9, api.ErrShort},
		{with(plain[:9], 0, 1), 9, api.ErrShort},
		{with(plain, 0, 1), 9, api.ErrForm},
		{with(plain, 1, 1), 9, api.ErrForm},
		{with(plain, 2, 1), 9, api.ErrForm},
		{with(plain, 3, 0x20), 9, api.ErrForm},
		{with(plain, 3, 0x40), 9, api.ErrForm},
		{with(plain, 3, 0x80), 9, api.ErrForm},
		{with(plain, 10, 6), 9, api.ErrForm},
		{plain, 2, api.ErrLong},
		{with(plain, -1, 1), 9, api.ErrSum},
		{with(plain, -4, 1), 9, api.ErrSum},
		{with(plain, -5, 1), 9, api.ErrSum},
		{with(plain, -8, 1), 9, api.ErrSum},
		{with(built(2, half(2, "")), 10, 1), 9, api.ErrSum},
		{with(built(2, half(2, "")), 11, 1), 9, api.ErrSum},
		{with(built(2, half(2, "")), 5, 1), 9, api.ErrSum},
		{append(slices.Clone(plain), 0), 9, api.ErrShort},
		{append(slices.Clone(plain), make([]byte, 10)...), 9, api.ErrForm},
		{append(slices.Clone(plain), plain...), 5, api.ErrLong},
	} {
		if out, e := Unwrap(c.b, c.most); len(out) != 0 || e != c.e {
			t.Error(i, out, e)
		}
	}
}

func TestP6_3RoundTrip(t *testing.T) {
	for _, s := range []string{"", "abc", string(bytes.Repeat([]byte("abcd"), 70000))} {
		if out, e := Unwrap(wrapped(t, s), len(s)); string(out) != s || e != api.OK {
			t.Error(len(s), e)
		}
		two := append(wrapped(t, s), wrapped(t, "xyz")...)
		if out, e := Unwrap(two, len(s)+3); string(out) != s+"xyz" || e != api.OK {
			t.Error(len(s), e)
		}
	}
}

// TestP6_2ManyMembers: the members that follow must not cost anew with each one.
func TestP6_2ManyMembers(t *testing.T) {
	start := time.Now()
	out, e := Unwrap(bytes.Repeat(wrapped(t, ""), 100000), 9)
	if len(out) != 0 || e != api.OK || time.Since(start) > time.Minute {
		t.Error(len(out), e, time.Since(start))
	}
}
