package head

import (
	"math"
	"math/rand"
	"reflect"
	"strings"
	"testing"

	"abutment/api"
)

var wide = api.Limits{Head: api.MaxHead, Fields: 1000}

// P22.1
func TestParse(t *testing.T) {
	for _, c := range []struct {
		kind  int
		lim   api.Limits
		lines []string
		want  api.Head
		e     api.Errno
	}{
		{Asks, wide, []string{"GET / HTTP/1.1", "Host: a", "B:"}, api.Head{Method: "GET", Target: "/", Minor: 1, Fields: []api.Field{{Name: "Host", Value: "a"}, {Name: "B"}}}, api.OK}, {Answers, wide, []string{"HTTP/1.0 200 OK"}, api.Head{Status: 200, Reason: "OK"}, api.OK},
		{Asks, api.Limits{Fields: 1, Fold: 1}, []string{"GET / HTTP/1.0", "A: 1"}, api.Head{Method: "GET", Target: "/", Fields: []api.Field{{Name: "A", Value: "1"}}}, api.OK}, {Asks, api.Limits{Fields: 2, Fold: 1}, []string{"GET / HTTP/1.0", "A: 1", " 2"}, api.Head{Method: "GET", Target: "/", Fields: []api.Field{{Name: "A", Value: "1 2"}}}, api.OK},
		{0, wide, nil, api.Head{}, api.ErrArg}, {3, wide, []string{"GET / HTTP/1.1"}, api.Head{}, api.ErrArg}, {-1, wide, []string{"x"}, api.Head{}, api.ErrArg}, {Asks, wide, nil, api.Head{}, api.ErrEnd}, {Answers, wide, nil, api.Head{}, api.ErrEnd},
		{Asks, api.Limits{}, []string{"GET /", "x", "y"}, api.Head{}, api.ErrForm}, {Asks, wide, []string{"HTTP/1.0 200 OK"}, api.Head{}, api.ErrName}, {Answers, wide, []string{"GET / HTTP/1.1"}, api.Head{}, api.ErrForm}, {Answers, wide, []string{"HTTP/1.0 600 OK", "x"}, api.Head{}, api.ErrStatus}, {Asks, wide, []string{"GET / HTTP/3.1", "x"}, api.Head{}, api.ErrVersion},
		{Asks, api.Limits{Fields: 1}, []string{"GET / HTTP/1.0", "bad", "b c: d"}, api.Head{}, api.ErrLong}, {Asks, api.Limits{Fields: 1, Fold: 1}, []string{"GET / HTTP/1.0", "A: 1", " 2"}, api.Head{}, api.ErrLong}, {Asks, api.Limits{}, []string{"GET / HTTP/1.0", "A: 1"}, api.Head{}, api.ErrLong},
		{Asks, wide, []string{"GET / HTTP/1.0", "A: 1", " 2"}, api.Head{}, api.ErrForm}, {Asks, wide, []string{"GET / HTTP/1.0", "A : 1"}, api.Head{}, api.ErrName}, {Asks, wide, []string{"GET / HTTP/1.0", "A: \x00"}, api.Head{}, api.ErrValue}, {Asks, wide, []string{"", "GET / HTTP/1.0"}, api.Head{}, api.ErrForm},
	} {
		if h, e := Parse(c.kind, c.lim, c.lines...); !same(h, c.want) || e != c.e {
			t.Errorf("%q: %v %d", c.lines, h, e)
		}
	}
}

// same holds nil and empty lists for one.
func same(a, b api.Head) bool {
	if len(a.Fields) == 0 && len(b.Fields) == 0 {
		a.Fields, b.Fields = nil, nil
	}
	return reflect.DeepEqual(a, b)
}

// P22.2
func TestNew(t *testing.T) {
	for _, c := range []struct {
		kind, most int
		want       bool
	}{{Asks, 0, true}, {Answers, api.MaxHead, true}, {0, 10, false}, {3, 10, false}, {Asks, -1, false}, {Asks, api.MaxHead + 1, false}, {math.MinInt, math.MaxInt, false}} {
		p := New(c.kind, api.Limits{Head: c.most, Fields: -1, Line: -1, Body: -1})
		if (p != nil) != c.want || p.Begun() || p.Done() {
			t.Error(c)
		}
	}
}

type state struct {
	used        int
	e           api.Errno
	done, begun bool
}

func feed(t *testing.T, p *Parser, s string, want state) {
	t.Helper()
	used, e := p.Feed(s)
	if got := (state{used, e, p.Done(), p.Begun()}); got != want {
		t.Errorf("%q: %v", s, got)
	}
	if h := p.Head(); !want.done && !same(h, api.Head{}) {
		t.Error(h)
	}
}

// P22.2, P22.3
func TestFeed(t *testing.T) {
	const text = "GET / HTTP/1.1\r\nHost: a\r\n\r\n"
	p := New(Asks, wide)
	feed(t, p, "", state{})
	feed(t, p, text[:3], state{3, api.OK, false, true})
	feed(t, p, text[3:]+"more", state{len(text) - 3, api.OK, true, true})
	feed(t, p, "more", state{0, api.OK, true, true})
	feed(t, p, "", state{0, api.OK, true, true})
	want := api.Head{Method: "GET", Target: "/", Minor: 1, Fields: []api.Field{{Name: "Host", Value: "a"}}}
	h := p.Head()
	if !same(h, want) {
		t.Error(h)
	}
	h.Fields[0].Name = "x"
	if !same(p.Head(), want) {
		t.Error("shared")
	}
	q := New(Answers, wide)
	feed(t, q, "HTTP/1.0 200 OK\r\n\r\nbody", state{19, api.OK, true, true})
	if !same(q.Head(), api.Head{Status: 200, Reason: "OK"}) {
		t.Error(q.Head())
	}
}

// P22.2, P22.3: empty lines ahead.
func TestEmptyLines(t *testing.T) {
	p := New(Asks, wide)
	feed(t, p, "\r\n", state{2, api.OK, false, false})
	feed(t, p, "\r\n\r\n", state{4, api.OK, false, false})
	feed(t, p, "G", state{1, api.OK, false, true})
	feed(t, p, "ET / HTTP/1.0\r\n", state{15, api.OK, false, true})
	feed(t, p, "\r\n", state{2, api.OK, true, true})
	feed(t, New(Answers, wide), "\r\nHTTP/1.0 200 OK\r\n\r\n", state{2, api.ErrEnd, false, true})
	feed(t, New(Asks, wide), "\r\n\n", state{2, api.ErrLine, false, false})
	feed(t, New(Asks, api.Limits{Head: 4}), "\r\n\r\n\r\n", state{4, api.ErrLong, false, false})
	feed(t, New(Asks, api.Limits{Head: 20}), "\r\nGET / HTTP/1.0\r\n\r\n", state{20, api.OK, true, true})
	feed(t, New(Asks, api.Limits{Head: 19}), "\r\nGET / HTTP/1.0\r\n\r\n", state{19, api.ErrLong, false, true})
}

// P22.2: errors are told again, and nothing more is used.
func TestErrors(t *testing.T) {
	for _, c := range []struct {
		s    string
		used int
		e    api.Errno
	}{
		{"GET / HTTP/1.0\n", 14, api.ErrLine}, {"GET\r /", 4, api.ErrLine}, {"GET /\r\n\r\nmore", 9, api.ErrForm}, {"GET / HTTP/1.0\r\nA : b\r\n\r\nmore", 25, api.ErrName}, {"GET / HTTP/1.0\r\n a: b\r\n\r\n", 25, api.ErrForm},
	} {
		p := New(Asks, wide)
		feed(t, p, c.s, state{c.used, c.e, false, true})
		feed(t, p, "x\r\n\r\n", state{0, c.e, false, true})
		feed(t, p, "", state{0, c.e, false, true})
	}
	for _, p := range []*Parser{nil, {}} {
		feed(t, p, "", state{0, api.ErrArg, false, false})
		feed(t, p, "GET / HTTP/1.0\r\n\r\n", state{0, api.ErrArg, false, false})
	}
}

// P22.4
func TestPrint(t *testing.T) {
	for _, c := range []struct {
		h     api.Head
		text  string
		right bool
	}{
		{api.Head{Method: "GET", Target: "/", Minor: 1, Fields: []api.Field{{Name: "A", Value: "b"}, {Name: "C"}}}, "GET / HTTP/1.1\r\nA: b\r\nC:\r\n\r\n", true}, {api.Head{Status: 200, Reason: "OK fine"}, "HTTP/1.0 200 OK fine\r\n\r\n", true}, {api.Head{Status: 599}, "HTTP/1.0 599 \r\n\r\n", true}, {api.Head{Status: 100}, "HTTP/1.0 100 \r\n\r\n", true},
		{api.Head{}, "HTTP/1.0 000 \r\n\r\n", false}, {api.Head{Status: 99}, "HTTP/1.0 099 \r\n\r\n", false}, {api.Head{Status: 600}, "HTTP/1.0 600 \r\n\r\n", false}, {api.Head{Status: 200, Target: "/"}, "HTTP/1.0 200 \r\n\r\n", false}, {api.Head{Status: 200, Reason: "\n"}, "HTTP/1.0 200 \n\r\n\r\n", false}, {api.Head{Status: 200, Minor: 2}, "HTTP/1.1 200 \r\n\r\n", false}, {api.Head{Status: 200, Minor: -1}, "HTTP/1.0 200 \r\n\r\n", false},
		{api.Head{Method: "GET"}, "GET  HTTP/1.0\r\n\r\n", false}, {api.Head{Method: "G T", Target: "/"}, "G T / HTTP/1.0\r\n\r\n", false}, {api.Head{Method: "GET", Target: "/ "}, "GET /  HTTP/1.0\r\n\r\n", false}, {api.Head{Method: "GET", Target: "/", Status: 200}, "GET / HTTP/1.0\r\n\r\n", false}, {api.Head{Method: "GET", Target: "/", Reason: "x"}, "GET / HTTP/1.0\r\n\r\n", false}, {api.Head{Method: "GET", Target: "/", Minor: 2}, "GET / HTTP/1.1\r\n\r\n", false},
		{api.Head{Method: "GET", Target: "/", Fields: []api.Field{{Name: "A"}, {Name: "a b"}}}, "GET / HTTP/1.0\r\nA:\r\na b:\r\n\r\n", false}, {api.Head{Status: 200, Fields: []api.Field{{Name: "A", Value: " b"}}}, "HTTP/1.0 200 \r\nA:  b\r\n\r\n", false},
	} {
		if got := Print(c.h); got != c.text || Right(c.h) != c.right {
			t.Errorf("%v: %q %v", c.h, got, Right(c.h))
		}
	}
}

// whole reads a head in such parts.
func whole(kind int, lim api.Limits, s string, part func() int) (state, api.Head) {
	p := New(kind, lim)
	used := 0
	for {
		n, e := p.Feed(s[used:min(len(s), used+part())])
		used += n
		if e != api.OK || p.Done() || used == len(s) {
			return state{used, e, p.Done(), p.Begun()}, p.Head()
		}
	}
}

// P22.5
func TestHowOctetsCome(t *testing.T) {
	r := rand.New(rand.NewSource(19))
	parts := []string{"GET / HTTP/1.1\r\n", "HTTP/1.0 200 OK\r\n", "\r\n", "\r\n", "A: b\r\n", "c:\r\n", " d\r\n", "\r", "\n", "x y: z\r\n", "e"}
	for range 10000 {
		s := strings.Repeat("\r\n", r.Intn(2)) + parts[r.Intn(2)]
		for range r.Intn(7) {
			s += parts[2+r.Intn(len(parts)-2)]
		}
		kind, lim := 1+r.Intn(2), api.Limits{Head: 20 + r.Intn(40), Fields: r.Intn(4), Fold: r.Intn(2)}
		a, h := whole(kind, lim, s, func() int { return len(s) })
		b, g := whole(kind, lim, s, func() int { return 1 + r.Intn(4) })
		if a != b || !same(h, g) {
			t.Fatalf("%q: %v %v", s, a, b)
		}
		if a.done {
			c, back := whole(kind, wide, Print(h), func() int { return 100 })
			if !Right(h) || !c.done || !same(back, h) {
				t.Fatalf("%q: %v", s, h)
			}
		}
	}
}
