package config

import (
	"math"
	"strings"
	"testing"

	"abutment/api"
)

const usual = "abutment - 1 0 1 1 1024 4096 10 0 8 8 0 8192 100 256 65536 0"

// P13.2, P13.4
func TestUsual(t *testing.T) {
	want := api.Config{Name: "abutment", Minor: 1, Trailers: 1, Reuse: 1, Chunk: 1024, Queue: 4096, Interim: 10, Clients: 8, Origins: 8, Limits: api.Limits{Head: 8192, Fields: 100, Line: 256, Body: 65536}}
	if c := Usual(); c != want || Right(c) != api.OK || Print(c) != usual {
		t.Error(c, Print(c))
	}
}

// edges are the numbers, and from what to what they may be.
func edges(c *api.Config) []struct {
	n           *int
	least, most int
} {
	return []struct {
		n           *int
		least, most int
	}{
		{&c.Minor, 0, 1}, {&c.Stream, 0, 1}, {&c.Trailers, 0, 1}, {&c.Reuse, 0, 1}, {&c.Chunk, 1, 65536}, {&c.Queue, 1, 65536}, {&c.Interim, 0, 100}, {&c.Idle, 0, 1 << 30}, {&c.Clients, 1, 16}, {&c.Origins, 1, 16}, {&c.Share, 0, 1},
		{&c.Limits.Head, 16, 65536}, {&c.Limits.Fields, 1, 1000}, {&c.Limits.Line, 3, 4096}, {&c.Limits.Body, 0, 1 << 20}, {&c.Limits.Fold, 0, 1},
	}
}

// P13.1, P13.2, P13.3: each number at its edges, and in its place.
func TestNumbers(t *testing.T) {
	var c api.Config
	for i, x := range edges(&c) {
		for _, n := range []int{x.least - 1, x.least, x.most, x.most + 1, math.MinInt, math.MaxInt} {
			c = Usual()
			*x.n = n
			want := n >= x.least && n <= x.most
			if e := Right(c); (e == api.OK) != want || e != api.OK && e != api.ErrNum {
				t.Error(i, n, e)
			}
			s := Print(c)
			if (s != "") != want {
				t.Error(i, n, s)
			}
			if back, e := Parse(s); want && (back != c || e != api.OK) {
				t.Error(i, s, back)
			}
		}
	}
}

// P13.2: names, authorities, and which error is told first.
func TestRight(t *testing.T) {
	for _, x := range []struct {
		name, authority string
		minor           int
		e               api.Errno
	}{
		{strings.Repeat("n", 100), "", 1, api.OK}, {strings.Repeat("n", 101), "", 1, api.ErrName}, {"", "", 1, api.ErrName}, {"a b", "a b", 9, api.ErrName}, {"a", "a b", 9, api.ErrHost}, {"a", "a.b:81", 0, api.OK}, {"a", "a.b:80", 0, api.ErrHost}, {"a", "A", 0, api.ErrHost},
		{"a", strings.Repeat("h", 200), 0, api.OK}, {"a", strings.Repeat("h", 201), 0, api.ErrHost}, {"a", "[::1]:5", 1, api.OK}, {"a", "", 2, api.ErrNum}, {"a", "a:", 1, api.ErrHost}, {"a", "a:081", 1, api.ErrHost},
	} {
		c := Usual()
		c.Name, c.Authority, c.Minor = x.name, x.authority, x.minor
		if e := Right(c); e != x.e {
			t.Error(x, e)
		}
		if s := Print(c); (s != "") != (x.e == api.OK) {
			t.Error(x, s)
		} else if back, e := Parse(s); s != "" && (back != c || e != api.OK) {
			t.Error(s, back, e)
		}
	}
	if Right(api.Config{}) != api.ErrName || Print(api.Config{}) != "" {
		t.Error("zero")
	}
}

// P13.3
func TestParse(t *testing.T) {
	c := Usual()
	c.Authority = "h:8080"
	if got, e := Parse(strings.Replace(usual, "-", "h:8080", 1)); got != c || e != api.OK {
		t.Error(got, e)
	}
	for _, s := range []string{
		"", " ", usual + " ", " " + usual, usual + " 0", usual[:len(usual)-2], strings.Replace(usual, "-", "", 1), strings.Replace(usual, "-", "A", 1), strings.Replace(usual, " 1 ", " 01 ", 1), strings.Replace(usual, " 1 ", " 2 ", 1), strings.Replace(usual, " 1 ", " +1 ", 1),
		strings.Replace(usual, " 1 ", "  1 ", 1), strings.Replace(usual, "abutment", "a\tb", 1), strings.Replace(usual, "1024", "x", 1), strings.Replace(usual, "1024", "", 1), strings.Replace(usual, "1024", "0", 1), strings.Replace(usual, "1024", "18446744073709552640", 1), usual + "\n",
	} {
		if got, e := Parse(s); got != (api.Config{}) || e != api.ErrForm {
			t.Errorf("%q: %v %d", s, got, e)
		}
	}
}
