package crc

import (
	"hash/crc32"
	"math/rand"
	"testing"
)

func sample(n int) []byte {
	b := make([]byte, n)
	rand.New(rand.NewSource(int64(n))).Read(b)
	return b
}

func TestP2_1Table(t *testing.T) {
	if Table() != [256]uint32(*crc32.IEEETable) {
		t.Error("Table")
	}
}

func TestP2_1Of(t *testing.T) {
	if Of([]byte("123456789")) != 0xcbf43926 || Of(nil) != 0 || Of([]byte{0}) != 0xd202ef8d {
		t.Error("Of")
	}
	for _, n := range []int{1, 7, 256, 4097} {
		if b := sample(n); Of(b) != crc32.ChecksumIEEE(b) {
			t.Error(n)
		}
	}
}

func TestP2_1Next(t *testing.T) {
	b := sample(1000)
	s := Next(Table(), 0xffffffff, b[:300])
	if ^Next(Table(), s, b[300:]) != crc32.ChecksumIEEE(b) || Next(Table(), 7, nil) != 7 {
		t.Error("Next")
	}
	own := [256]uint32{0x12: 0xabcd}
	if n := Next(own, 0x5510, []byte{2}); n != 0x55^0xabcd {
		t.Errorf("%x", n)
	}
}

func TestP2_2Join(t *testing.T) {
	if Join(5, 9, 0) != 5^9 || Join(5, 9, -1) != 5^9 || Join(5, 9, -1<<63) != 5^9 {
		t.Error("no bytes")
	}
	if Join(0x1234, 1, 1) != 0x12^Table()[0x34]^1 {
		t.Error("one byte")
	}
	most := Join(5, 9, 1<<20)
	if Join(5, 9, 1<<20+1) != most || Join(5, 9, 1<<62) != most || Join(5, 9, 1<<20-1) == most {
		t.Error("many bytes")
	}
}

func TestP2_3Parts(t *testing.T) {
	for _, n := range []int{0, 1, 5, 1000, 1 << 20} {
		x, y := sample(100), sample(n)
		if Join(Of(x), Of(y), n) != Of(append(x, y...)) {
			t.Error(n)
		}
	}
}
