package lines

import (
	"math"
	"math/rand"
	"slices"
	"testing"

	"abutment/api"
)

// P16.1
func TestNew(t *testing.T) {
	for _, most := range []int{-1, api.MaxHead + 1, math.MinInt, math.MaxInt} {
		if New(most) != nil {
			t.Error(most)
		}
	}
	for _, most := range []int{0, 1, api.MaxHead} {
		if p := New(most); p == nil || p.Whole() || p.Within() || p.Line() != "" || p.Spent() != 0 {
			t.Error(most)
		}
	}
}

func feed(t *testing.T, p *Lines, s string, used int, e api.Errno) {
	t.Helper()
	if n, err := p.Feed(s); n != used || err != e {
		t.Errorf("%q: %d %d", s, n, err)
	}
}

func state(t *testing.T, p *Lines, whole, within bool, spent int) {
	t.Helper()
	if p.Whole() != whole || p.Within() != within || p.Spent() != spent {
		t.Error(p.Whole(), p.Within(), p.Spent())
	}
}

// P16.2, P16.3: the example, and what is told in between.
func TestFeed(t *testing.T) {
	p := New(100)
	feed(t, p, "", 0, api.OK)
	feed(t, p, "ab\r\nc", 4, api.OK)
	state(t, p, true, false, 4)
	feed(t, p, "c\n", 0, api.OK)
	if s := p.Line(); s != "ab" || p.Line() != "" {
		t.Error(s)
	}
	state(t, p, false, false, 4)
	feed(t, p, "c\n", 1, api.ErrLine)
	state(t, p, false, true, 5)
	feed(t, p, "x", 0, api.ErrLine)
	feed(t, p, "", 0, api.ErrLine)
	if p.Line() != "" {
		t.Error("line")
	}
	q := New(100)
	feed(t, q, "\r", 1, api.OK)
	state(t, q, false, true, 1)
	feed(t, q, "\n\r\nx", 1, api.OK)
	state(t, q, true, false, 2)
	if s := q.Line(); s != "" || q.Whole() {
		t.Error(s)
	}
	feed(t, q, "\x00\xff \r\n", 5, api.OK)
	if s := q.Line(); s != "\x00\xff " {
		t.Errorf("%q", s)
	}
}

// P16.2: which octets are wrong.
func TestWrong(t *testing.T) {
	for _, c := range []struct {
		most int
		s    string
		used int
		e    api.Errno
	}{
		{9, "\n", 0, api.ErrLine}, {9, "a\n", 1, api.ErrLine}, {9, "\rx", 1, api.ErrLine}, {9, "\r\r", 1, api.ErrLine}, {9, "a\r\r\n", 2, api.ErrLine}, {0, "a", 0, api.ErrLong}, {0, "\n", 0, api.ErrLong}, {2, "ab\r\n", 2, api.ErrLong}, {3, "ab\r\n", 3, api.ErrLong}, {4, "ab\r\n", 4, api.OK},
		{1, "\rx", 1, api.ErrLong}, {1, "a\n", 1, api.ErrLong}, {2, "\r\n", 2, api.OK}, {0, "", 0, api.OK},
	} {
		p := New(c.most)
		feed(t, p, c.s, c.used, c.e)
		if p.Spent() != c.used {
			t.Error(c, p.Spent())
		}
		if c.e != api.OK {
			feed(t, p, "\r\n", 0, c.e)
		}
	}
	p := New(5)
	feed(t, p, "a\r\n", 3, api.OK)
	p.Line()
	feed(t, p, "b\r\n", 2, api.ErrLong)
	if q := New(3); q.Within() {
		t.Error("within")
	} else {
		feed(t, q, "\n", 0, api.ErrLine)
		state(t, q, false, false, 0)
	}
}

// P16.3: a nil one, and a plain one.
func TestNothing(t *testing.T) {
	for _, p := range []*Lines{nil, {}} {
		feed(t, p, "", 0, api.OK)
		feed(t, p, "\n", 0, api.ErrLong)
		feed(t, p, "a", 0, api.ErrLong)
		state(t, p, false, false, 0)
		if p.Line() != "" {
			t.Error("line")
		}
	}
}

// all are the lines that come out, how many octets were used, and the error, where s comes in such parts.
func all(most int, s string, part func() int) ([]string, int, api.Errno) {
	p := New(most)
	var l []string
	used := 0
	for used < len(s) {
		n, e := p.Feed(s[used:min(len(s), used+part())])
		used += n
		if e != api.OK {
			return l, used, e
		}
		if p.Whole() {
			l = append(l, p.Line())
		}
	}
	return l, used, api.OK
}

// P16.4
func TestHowOctetsCome(t *testing.T) {
	r := rand.New(rand.NewSource(14))
	for range 5000 {
		b := ""
		for range r.Intn(8) {
			b += []string{"\r\n", "a", "bc", "\r\n", "\r", "\n"}[min(5, r.Intn(40)/6)]
		}
		most := r.Intn(20)
		l, n, e := all(most, b, func() int { return len(b) })
		m, k, f := all(most, b, func() int { return 1 + r.Intn(3) })
		if !slices.Equal(l, m) || n != k || e != f {
			t.Fatalf("%q: %q %d %d, %q %d %d", b, l, n, e, m, k, f)
		}
	}
}
