// Package bitio reads and writes bit fields, the least significant bit of each byte first.
package bitio

import (
	"slices"

	"portolan/api"
)

const widest = 32

// Reader reads bits.
type Reader struct {
	b  []byte
	at int
}

// NewReader returns a reader at the first bit of b.
func NewReader(b []byte) *Reader {
	return &Reader{b: slices.Clone(b)}
}

// Bits returns the next n bits as a number, the first one being the least significant.
func (r *Reader) Bits(n int) (uint32, api.Errno) {
	switch {
	case r == nil:
		return 0, api.ErrNil
	case n < 0 || n > widest:
		return 0, api.ErrArg
	case r.Left() < n:
		return 0, api.ErrShort
	}
	v := uint32(0)
	for i := range n {
		v |= r.next() << i
	}
	return v, api.OK
}

func (r *Reader) next() uint32 {
	bit := r.b[r.at/8] >> (r.at % 8) & 1
	r.at++
	return uint32(bit)
}

// Align advances to the next byte boundary and returns the number of bits skipped.
func (r *Reader) Align() int {
	if r == nil {
		return 0
	}
	n := rest(r.at)
	r.at += n
	return n
}

// Left returns the number of bits that remain.
func (r *Reader) Left() int {
	if r == nil {
		return 0
	}
	return 8*len(r.b) - r.at
}

// At returns the number of bits read or skipped so far.
func (r *Reader) At() int {
	if r == nil {
		return 0
	}
	return r.at
}

// Writer writes bits.
type Writer struct {
	b []byte
	n int
}

// NewWriter returns an empty writer.
func NewWriter() *Writer {
	return &Writer{}
}

// Bits appends the n least significant bits of v, the least significant one first.
func (w *Writer) Bits(v uint32, n int) api.Errno {
	if e := w.check(n); e != api.OK {
		return e
	}
	for i := range n {
		w.put(v >> i)
	}
	return api.OK
}

// Turned appends the n least significant bits of v, the most significant one of them first.
func (w *Writer) Turned(v uint32, n int) api.Errno {
	if e := w.check(n); e != api.OK {
		return e
	}
	for i := range n {
		w.put(v >> (n - 1 - i))
	}
	return api.OK
}

func (w *Writer) check(n int) api.Errno {
	switch {
	case w == nil:
		return api.ErrNil
	case n < 0 || n > widest:
		return api.ErrArg
	}
	return api.OK
}

func (w *Writer) put(bit uint32) {
	if w.n%8 == 0 {
		w.b = append(w.b, 0)
	}
	w.b[w.n/8] |= byte(bit&1) << (w.n % 8)
	w.n++
}

// Align appends zero bits up to the next byte boundary and returns their number.
func (w *Writer) Align() int {
	if w == nil {
		return 0
	}
	// The last byte is zero beyond the bits written, so that counting is enough.
	n := rest(w.n)
	w.n += n
	return n
}

// Bytes returns all bits written, with the last byte padded with zero bits.
func (w *Writer) Bytes() []byte {
	if w == nil {
		return nil
	}
	return slices.Clone(w.b)
}

// Len returns the number of bits written.
func (w *Writer) Len() int {
	if w == nil {
		return 0
	}
	return w.n
}

// rest is the number of bits from bit n to the next byte boundary.
func rest(n int) int {
	return (8 - n%8) % 8
}
