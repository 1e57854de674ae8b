package proxy

import (
	"bytes"
	"fmt"
	"math/rand"
	"slices"
	"testing"

	"portolan/api"
	"portolan/sample"
	"portolan/serve"
)

func request(method, path string, more ...string) []byte {
	s := method + " " + path + " HTTP/1.1\r\nHost: x\r\n"
	for _, line := range more {
		s += line + "\r\n"
	}
	return []byte(s + "\r\n")
}

func same(x, y api.Resp) bool {
	return x.Status == y.Status && slices.Equal(x.Heads, y.Heads) && bytes.Equal(x.Body, y.Body)
}

func TestP36_1New(t *testing.T) {
	s := New(sample.Files(), sample.Composites(), 2, 100)
	hits, misses := s.Cache().Counts()
	if s.Made() != 0 || s.Cache().Len() != 0 || hits != 0 || misses != 0 {
		t.Error("not new")
	}
	s.Do(request("GET", "/none"))
	s.Do(request("GET", "/none?x"))
	s.Do(request("HEAD", "/other"))
	if hits, misses := s.Cache().Counts(); s.Made() != 2 || !slices.Equal(s.Cache().Keys(), []string{"/other", "/none"}) || hits != 1 || misses != 2 {
		t.Error(s.Made(), s.Cache().Keys(), hits, misses)
	}
	s.Do(request("GET", "/third"))
	if !slices.Equal(s.Cache().Keys(), []string{"/third", "/other"}) {
		t.Error("entries", s.Cache().Keys())
	}
	s.Forget()
	if hits, misses := s.Cache().Counts(); s.Cache().Len() != 0 || s.Made() != 3 || hits != 1 || misses != 3 {
		t.Error("Forget")
	}
	s.Do(request("GET", "/none"))
	if s.Made() != 4 {
		t.Error(s.Made())
	}
	tight := New(sample.Files(), sample.Composites(), 2, 9)
	tight.Do(request("GET", "/none"))
	tight.Do(request("GET", "/none"))
	if tight.Made() != 2 || tight.Cache().Len() != 0 {
		t.Error("size", tight.Made())
	}
}

func TestP36_1NilServer(t *testing.T) {
	var s *Server
	s.Forget()
	if x := s.Do(request("GET", "/all.json")); !same(x, api.Resp{}) || s.Cache() != nil || s.Made() != 0 {
		t.Error("nil server")
	}
}

func TestP36_1ArgumentsAreNotKept(t *testing.T) {
	files, l := sample.Files(), sample.Composites()
	l[0].Sources[0].Join.Only = []string{"pop"}
	l[0].Sources[0].Join.Not = []string{"pop"}
	s := New(files, l, 0, 0)
	paths := []string{"/all/1/0/1.mvt", "/all.json", "/lands.json"}
	var before []api.Resp
	for _, path := range paths {
		before = append(before, s.Do(request("GET", path)))
	}
	for i := range files {
		clear(files[i].Data)
		files[i].Name = "gone"
	}
	l[0].Sources[0].Join.Only[0], l[0].Sources[0].Join.Not[0], l[0].Sources[0].Archive = "kind", "kind", "bad"
	l[0].Sources[1].Layers[0][1] = "moved"
	l[1].ID = "gone"
	for i, path := range paths {
		if x := s.Do(request("GET", path)); !same(x, before[i]) || x.Status != api.StOK {
			t.Error(path, x.Status)
		}
	}
}

func TestP36_2Do(t *testing.T) {
	files, l := sample.Files(), sample.Composites()
	s := New(files, l, 9, 1<<20)
	for i, c := range []struct {
		b            []byte
		made         int
		hits, misses int
	}{
		{request("GET", "/all/1/0/1.mvt"), 1, 0, 1},
		{request("GET", "/all/1/0/1.mvt?x"), 1, 1, 1},
		{request("HEAD", "/all/1/0/1.mvt", "Accept-Encoding: gzip"), 1, 2, 1},
		{request("GET", "/all/1/0/1.mvt", "If-None-Match: *"), 1, 3, 1},
		{request("POST", "/all/1/0/1.mvt"), 1, 3, 1},
		{[]byte("GET /all/1/0/1.mvt"), 1, 3, 1},
		{nil, 1, 3, 1},
		{request("GET", "/none"), 2, 3, 2},
		{request("GET", "/none"), 2, 4, 2},
		{request("GET", "/bad.json"), 3, 4, 3},
		{request("GET", "/undescribed/2/3/3.mvt"), 4, 4, 4},
		{request("GET", "/undescribed/2/3/3.mvt"), 4, 5, 4},
		{request("GET", "/tight/0/0/0.mvt"), 5, 5, 5},
		{request("GET", "/tight/0/0/0.mvt"), 5, 6, 5},
		{request("GET", "?all"), 6, 6, 6},
	} {
		x := s.Do(c.b)
		hits, misses := s.Cache().Counts()
		if !same(x, serve.Respond(files, l, c.b)) || s.Made() != c.made || hits != c.hits || misses != c.misses {
			t.Error(i, x.Status, s.Made(), hits, misses)
		}
	}
}

func TestP36_3Entries(t *testing.T) {
	files, l := sample.Files(), sample.Composites()
	s := New(files, l, 9, 1<<20)
	for _, path := range []string{"/all/1/0/1.mvt", "/all.json", "/none", "/bad.json", "/undescribed/2/3/3.mvt"} {
		s.Do(request("GET", path))
		body, kind, status := serve.Content(files, l, path)
		b, ok := s.Cache().Get(path)
		if want := fmt.Sprintf("%d\n%s\n%s", status, kind, body); string(b) != want || !ok {
			t.Errorf("%s: %q", path, b)
		}
	}
}

func TestP36_4History(t *testing.T) {
	files, l := sample.Files(), sample.Composites()
	rnd := rand.New(rand.NewSource(36))
	paths := []string{"/all/1/0/1.mvt", "/all/0/0/0.mvt", "/all.json", "/lands.json", "/none", "/bad.json", "/undescribed/2/3/3.mvt", "/all/9/0/0.mvt"}
	for _, room := range [][2]int{{0, 0}, {1, 5000}, {3, 300}, {100, 1 << 20}, {-1, -1}} {
		s := New(files, l, room[0], room[1])
		known := map[string]int{}
		for range 200 {
			path := paths[rnd.Intn(len(paths))]
			b := request([]string{"GET", "HEAD", "PUT"}[rnd.Intn(3)], path, []string{"X: y", "Accept-Encoding: gzip", "If-None-Match: *", "Host: z"}[rnd.Intn(4)])
			there := slices.Contains(s.Cache().Keys(), path)
			made := s.Made()
			if x := s.Do(b); !same(x, serve.Respond(files, l, b)) {
				t.Fatalf("%q", b)
			}
			if there && s.Made() != made {
				t.Fatal(path, "was created again")
			}
			known[path] += s.Made() - made
			if rnd.Intn(40) == 0 {
				s.Forget()
			}
		}
		if room[0] <= 0 && s.Cache().Len() != 0 {
			t.Error(room)
		}
	}
}
