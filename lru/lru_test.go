package lru

import (
	"math/rand"
	"slices"
	"strings"
	"testing"
)

func TestP34_1New(t *testing.T) {
	c := New(2, 100)
	if hits, misses := c.Counts(); c.Len() != 0 || c.Size() != 0 || len(c.Keys()) != 0 || hits != 0 || misses != 0 {
		t.Error("not empty")
	}
	for _, n := range [][2]int{{0, 100}, {-5, 100}} {
		if c := New(n[0], n[1]); c.Put("", nil) || c.Len() != 0 {
			t.Error(n)
		}
	}
	for _, n := range [][2]int{{5, 0}, {5, -1}} {
		if c := New(n[0], n[1]); c.Put("a", nil) || !c.Put("", nil) || c.Len() != 1 || c.Size() != 0 {
			t.Error(n)
		}
	}
}

func TestP34_1Queries(t *testing.T) {
	c := New(2, 100)
	c.Put("a", []byte("12"))
	c.Put("bb", []byte("3"))
	if c.Len() != 2 || c.Size() != 6 || !slices.Equal(c.Keys(), []string{"bb", "a"}) {
		t.Error(c.Len(), c.Size(), c.Keys())
	}
	c.Get("a")
	c.Get("x")
	c.Get("x")
	if hits, misses := c.Counts(); hits != 1 || misses != 2 || !slices.Equal(c.Keys(), []string{"a", "bb"}) {
		t.Error(hits, misses, c.Keys())
	}
	c.Keys()[0] = "z"
	if c.Keys()[0] != "a" {
		t.Error("shared")
	}
}

func TestP34_2Order(t *testing.T) {
	c := New(2, 100)
	c.Put("a", nil)
	c.Put("b", nil)
	c.Get("a")
	c.Put("c", nil)
	if !slices.Equal(c.Keys(), []string{"c", "a"}) {
		t.Error(c.Keys())
	}
	c.Put("a", []byte("new"))
	if b, ok := c.Get("a"); string(b) != "new" || !ok || !slices.Equal(c.Keys(), []string{"a", "c"}) || c.Size() != 5 {
		t.Error(b, ok, c.Keys(), c.Size())
	}
	if b, ok := c.Get("b"); len(b) != 0 || ok {
		t.Error(b, ok)
	}
}

func TestP34_2Bytes(t *testing.T) {
	c := New(9, 10)
	for _, s := range []string{"a", "b", "c"} {
		c.Put(s, []byte("12"))
	}
	if !c.Put("d", []byte("123456")) || !slices.Equal(c.Keys(), []string{"d", "c"}) || c.Size() != 10 {
		t.Error(c.Keys(), c.Size())
	}
	if c.Put("e", make([]byte, 10)) || !slices.Equal(c.Keys(), []string{"d", "c"}) {
		t.Error("too long", c.Keys())
	}
	if c.Put("c", make([]byte, 10)) || !slices.Equal(c.Keys(), []string{"d", "c"}) {
		t.Error("too long", c.Keys())
	}
	if b, _ := c.Get("c"); string(b) != "12" {
		t.Error(b)
	}
	if !c.Put("c", make([]byte, 9)) || !slices.Equal(c.Keys(), []string{"c"}) || c.Size() != 10 {
		t.Error(c.Keys(), c.Size())
	}
	if hits, misses := c.Counts(); hits != 1 || misses != 0 {
		t.Error("Put counts nothing")
	}
}

func TestP34_2Clear(t *testing.T) {
	c := New(3, 100)
	c.Put("a", []byte("1"))
	c.Get("a")
	c.Get("b")
	c.Clear()
	if hits, misses := c.Counts(); c.Len() != 0 || c.Size() != 0 || len(c.Keys()) != 0 || hits != 1 || misses != 1 {
		t.Error(c.Len(), c.Size(), hits, misses)
	}
	if _, ok := c.Get("a"); ok || !c.Put("a", []byte("2")) || c.Len() != 1 || c.Size() != 2 {
		t.Error("after Clear")
	}
}

func TestP34_2Memory(t *testing.T) {
	c := New(3, 100)
	b := []byte("ab")
	c.Put("k", b)
	b[0] = 'z'
	got, _ := c.Get("k")
	got[1] = 'z'
	_ = append(got, 'z')
	if again, _ := c.Get("k"); string(again) != "ab" {
		t.Error(again)
	}
}

func TestP34_1NilCache(t *testing.T) {
	var c *Cache
	b, ok := c.Get("a")
	hits, misses := c.Counts()
	if len(b) > 0 || ok || c.Put("", nil) || len(c.Keys()) > 0 || c.Len() != 0 || c.Size() != 0 || hits != 0 || misses != 0 {
		t.Error("nil cache")
	}
	c.Clear()
}

func TestP34_3Model(t *testing.T) {
	rnd := rand.New(rand.NewSource(34))
	for range 300 {
		entries, size := rnd.Intn(5), rnd.Intn(30)
		c := New(entries, size)
		var keys []string
		contents := map[string]string{}
		bytes := func() int {
			n := 0
			for k, v := range contents {
				n += len(k) + len(v)
			}
			return n
		}
		for range 60 {
			key := strings.Repeat("k", rnd.Intn(3)) + string(rune('a'+rnd.Intn(4)))
			if rnd.Intn(9) == 0 {
				c.Clear()
				keys, contents = nil, map[string]string{}
			} else if rnd.Intn(2) == 0 {
				b, ok := c.Get(key)
				if want, there := contents[key]; string(b) != want || ok != there {
					t.Fatal(key, b, ok)
				}
				if n := slices.Index(keys, key); n >= 0 {
					keys = slices.Insert(slices.Delete(keys, n, n+1), 0, key)
				}
			} else {
				v := strings.Repeat("v", rnd.Intn(12))
				fits := entries > 0 && len(key)+len(v) <= size
				if c.Put(key, []byte(v)) != fits {
					t.Fatal(key, v)
				}
				if fits {
					if n := slices.Index(keys, key); n >= 0 {
						keys = slices.Delete(keys, n, n+1)
					}
					keys = slices.Insert(keys, 0, key)
					contents[key] = v
					for len(keys) > entries || bytes() > size {
						delete(contents, keys[len(keys)-1])
						keys = keys[:len(keys)-1]
					}
				}
			}
			if !slices.Equal(c.Keys(), keys) || c.Len() != len(keys) || c.Size() != bytes() || c.Len() > entries || c.Size() > size {
				t.Fatal(c.Keys(), keys)
			}
		}
	}
}
