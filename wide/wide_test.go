package wide

import (
	"math/big"
	"math/rand"
	"testing"

	"portolan/api"
)

const (
	maxI = 1<<63 - 1
	minI = -1 << 63
)

var edges = []int{0, 1, -1, 2, -2, 7, -7, 1 << 31, -1 << 32, 1<<53 - 1, 1 << 62, maxI, -maxI, minI, minI + 1}

func TestP22_1Mul(t *testing.T) {
	rnd := rand.New(rand.NewSource(22))
	for i := range 5000 {
		a, b := rnd.Uint64()>>uint(rnd.Intn(64)), rnd.Uint64()
		if i == 0 {
			a, b = 1<<64-1, 1<<64-1
		}
		hi, lo := Mul(a, b)
		got := new(big.Int).SetUint64(hi)
		got.Lsh(got, 64).Add(got, new(big.Int).SetUint64(lo))
		want := new(big.Int).SetUint64(a)
		if want.Mul(want, new(big.Int).SetUint64(b)).Cmp(got) != 0 {
			t.Fatal(a, b, hi, lo)
		}
	}
}

func TestP22_1Gcd(t *testing.T) {
	for _, c := range [][3]uint64{{0, 0, 0}, {5, 0, 5}, {0, 5, 5}, {12, 18, 6}, {18, 12, 6}, {7, 13, 1}, {1<<64 - 1, 1<<32 - 1, 1<<32 - 1}, {1 << 63, 1 << 40, 1 << 40}, {1, 1<<64 - 1, 1}} {
		if n := Gcd(c[0], c[1]); n != c[2] {
			t.Error(c, n)
		}
	}
}

func bigs(a, b int) *big.Int {
	return new(big.Int).Mul(big.NewInt(int64(a)), big.NewInt(int64(b)))
}

func TestP22_1Cmp(t *testing.T) {
	for _, a := range edges {
		for _, b := range edges {
			for _, c := range edges {
				for _, d := range edges {
					want := bigs(a, b).Cmp(bigs(c, d))
					if Cmp(a, b, c, d) != want || Sign(a, b, c, d) != want {
						t.Fatal(a, b, c, d, want)
					}
				}
			}
		}
	}
}

func check(t *testing.T, a, b, c int) {
	q, r, e := MulDiv(a, b, c)
	if c == 0 {
		if q != 0 || r != 0 || e != api.ErrArg {
			t.Fatal(a, b, c, q, r, e)
		}
		return
	}
	p := bigs(a, b)
	by := new(big.Int).Abs(big.NewInt(int64(c)))
	if c < 0 {
		p.Neg(p)
	}
	want, rest := new(big.Int).DivMod(p, by, new(big.Int))
	if !want.IsInt64() {
		if q != 0 || r != 0 || e != api.ErrRange {
			t.Fatal(a, b, c, q, r, e)
		}
		return
	}
	if int64(q) != want.Int64() || r != rest.Uint64() || e != api.OK {
		t.Fatal(a, b, c, q, r, e)
	}
	// P22.3
	back := bigs(q, c)
	signed := new(big.Int).SetUint64(r)
	if c < 0 {
		signed.Neg(signed)
	}
	if back.Add(back, signed).Cmp(bigs(a, b)) != 0 || new(big.Int).SetUint64(r).Cmp(by) >= 0 {
		t.Fatal(a, b, c, q, r)
	}
}

func TestP22_2MulDiv(t *testing.T) {
	if q, r, e := MulDiv(-7, 1, 2); q != -4 || r != 1 || e != api.OK {
		t.Error(q, r, e)
	}
	if q, r, e := MulDiv(minI, minI, minI); q != minI || r != 0 || e != api.OK {
		t.Error(q, r, e)
	}
	if q, r, e := MulDiv(minI, 1, -1); q != 0 || r != 0 || e != api.ErrRange {
		t.Error(q, r, e)
	}
	for _, a := range edges {
		for _, b := range edges {
			for _, c := range edges {
				check(t, a, b, c)
			}
		}
	}
}

// TestP22_2Overflow tries quotients of which the next one below has no room in a word.
func TestP22_2Overflow(t *testing.T) {
	rnd := rand.New(rand.NewSource(24))
	tried := 0
	for range 2000 {
		c := 1 + rnd.Intn(1<<60)
		a := 2*c + 1 + rnd.Intn(2*c)
		top := new(big.Int).Lsh(big.NewInt(int64(c)), 64)
		b := new(big.Int).Div(top.Sub(top, big.NewInt(1)), big.NewInt(int64(a)))
		rest := new(big.Int).Sub(top, new(big.Int).Mul(b, big.NewInt(int64(a))))
		if b.IsInt64() && rest.Cmp(big.NewInt(int64(c-1))) < 0 {
			tried++
			check(t, -a, int(b.Int64()), c)
			check(t, a, int(b.Int64()), c)
			check(t, a, int(b.Int64()), -c)
		}
	}
	if tried < 100 {
		t.Error(tried)
	}
}

func TestP22_3Remainder(t *testing.T) {
	rnd := rand.New(rand.NewSource(23))
	n := func() int { return int(rnd.Uint64()) >> uint(rnd.Intn(63)) }
	for range 20000 {
		check(t, n(), n(), n())
	}
}
