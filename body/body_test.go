package body

import (
	"math"
	"math/rand"
	"slices"
	"strings"
	"testing"

	"abutment/api"
)

var (
	lim     = api.Limits{Head: 100, Fields: 3, Line: 20}
	none    = api.Frame{}
	chunked = api.Frame{Kind: api.Chunked}
	closing = api.Frame{Kind: api.Close}
)

func sized(n int) api.Frame { return api.Frame{Kind: api.Sized, Length: n} }

func size(n int) api.Piece        { return api.Piece{Kind: api.Size, N: n} }
func data(s string) api.Piece     { return api.Piece{Kind: api.Data, Text: s} }
func wrong(e api.Errno) api.Piece { return api.Piece{Kind: api.Wrong, N: int(e)} }

var over = api.Piece{Kind: api.Over}

// joined puts Data together that comes in several Pieces.
func joined(l []api.Piece) []api.Piece {
	var m []api.Piece
	for _, p := range l {
		if n := len(m); n > 0 && p.Kind == api.Data && m[n-1].Kind == api.Data {
			m[n-1].Text += p.Text
		} else {
			m = append(m, p)
		}
	}
	return m
}

func feed(t *testing.T, d *Decoder, s string, used int, want ...api.Piece) {
	t.Helper()
	n, l := d.Feed(s)
	if n != used || !slices.Equal(joined(l), want) {
		t.Errorf("%q: %d %v", s, n, l)
	}
	for _, p := range l {
		if p.Kind == api.Data && p.Text == "" {
			t.Error("empty data")
		}
	}
}

func state(t *testing.T, d *Decoder, done bool, e api.Errno) {
	t.Helper()
	if d.Done() != done || d.Err() != e {
		t.Error(d.Done(), d.Err())
	}
}

// P24.2: None and Sized.
func TestSized(t *testing.T) {
	for _, f := range []api.Frame{none, sized(0), {Kind: api.None, Length: 5}} {
		d := New(f, lim)
		state(t, d, true, api.OK)
		feed(t, d, "x", 0, over)
		feed(t, d, "x", 0)
		e := New(f, lim)
		if l := e.Close(); len(l) != 0 {
			t.Error(l)
		}
		feed(t, e, "", 0, over)
		feed(t, e, "", 0)
	}
	d := New(sized(3), lim)
	feed(t, d, "", 0)
	feed(t, d, "ab", 2, data("ab"))
	state(t, d, false, api.OK)
	feed(t, d, "cde", 1, data("c"), over)
	state(t, d, true, api.OK)
	feed(t, d, "e", 0)
	if l := d.Close(); len(l) != 0 || !d.Done() || len(d.Trailers()) != 0 {
		t.Error(l)
	}
	e := New(sized(api.MaxLength), lim)
	feed(t, e, "a\r\n\x00", 4, data("a\r\n\x00"))
	if l := e.Close(); !slices.Equal(l, []api.Piece{wrong(api.ErrCut)}) || len(e.Close()) != 0 {
		t.Error(l)
	}
	state(t, e, false, api.ErrCut)
	feed(t, e, "x", 0)
}

// P24.2: Close.
func TestClose(t *testing.T) {
	d := New(closing, lim)
	feed(t, d, "", 0)
	feed(t, d, "abc", 3, data("abc"))
	state(t, d, false, api.OK)
	if l := d.Close(); !slices.Equal(l, []api.Piece{over}) || len(d.Close()) != 0 {
		t.Error(l)
	}
	state(t, d, true, api.OK)
	feed(t, d, "x", 0)
}

// P24.2: Chunked.
func TestChunked(t *testing.T) {
	d := New(chunked, lim)
	feed(t, d, "3\r\nabc\r\n0\r\n\r\nmore", 13, size(3), data("abc"), over)
	state(t, d, true, api.OK)
	feed(t, d, "x", 0)
	e := New(chunked, lim)
	feed(t, e, "a;x=y\r\n01234\r\n", 14, size(10), data("01234\r\n"))
	feed(t, e, "789", 3, data("789"))
	feed(t, e, "\r", 1)
	feed(t, e, "\n1", 2)
	feed(t, e, "\r\nx\r\n0", 6, size(1), data("x"))
	feed(t, e, "00\r\n\r", 5)
	state(t, e, false, api.OK)
	feed(t, e, "\nx", 1, over)
	state(t, e, true, api.OK)
}

// P24.2, P24.3: trailers.
func TestTrailers(t *testing.T) {
	for _, c := range []struct {
		s    string
		fold int
		want []api.Field
		e    api.Errno
	}{
		{"0\r\n\r\n", 0, nil, api.OK}, {"0\r\nA: 1\r\nb:\r\n\r\n", 0, []api.Field{{Name: "A", Value: "1"}, {Name: "b"}}, api.OK}, {"0;x\r\nA: 1\r\n 2\r\n\r\n", 1, []api.Field{{Name: "A", Value: "1 2"}}, api.OK}, {"0\r\nA:\r\nB:\r\nC:\r\n\r\n", 0, []api.Field{{Name: "A"}, {Name: "B"}, {Name: "C"}}, api.OK},
		{"0\r\nA: 1\r\n 2\r\n\r\n", 0, nil, api.ErrForm}, {"0\r\nA:\r\nB:\r\nC:\r\nD:\r\n\r\n", 0, nil, api.ErrLong}, {"0\r\nbad\r\nB:\r\nC:\r\nD:\r\n\r\n", 0, nil, api.ErrLong}, {"0\r\nA:\r\n 2\r\n 3\r\n 4\r\n\r\n", 1, nil, api.ErrLong}, {"0\r\nA : 1\r\n\r\n", 0, nil, api.ErrName}, {"0\r\nA: \x00\r\n\r\n", 0, nil, api.ErrValue}, {"0\r\n\tA: 1\r\n\r\n", 1, nil, api.ErrForm},
	} {
		l := lim
		l.Fold = c.fold
		d := New(chunked, l)
		end := wrong(c.e)
		if c.e == api.OK {
			end = over
		}
		feed(t, d, c.s, len(c.s), end)
		state(t, d, c.e == api.OK, c.e)
		if got := d.Trailers(); !slices.Equal(got, c.want) {
			t.Errorf("%q: %q", c.s, got)
		}
		feed(t, d, "x", 0)
		if len(d.Close()) != 0 {
			t.Error("close")
		}
	}
	d := New(chunked, lim)
	feed(t, d, "0\r\nA: 1\r\n", 9)
	if len(d.Trailers()) != 0 {
		t.Error("too early")
	}
	d.Feed("\r\n")
	d.Trailers()[0].Name = "x"
	if d.Trailers()[0].Name != "A" {
		t.Error("shared")
	}
}

// P24.2: what is wrong, at which octet.
func TestWrong(t *testing.T) {
	for _, c := range []struct {
		s    string
		used int
		want []api.Piece
	}{
		{"\r\n", 2, []api.Piece{wrong(api.ErrEnd)}}, {"x\r\n", 3, []api.Piece{wrong(api.ErrForm)}}, {"80000000\r\n", 10, []api.Piece{wrong(api.ErrNum)}}, {"3\n", 1, []api.Piece{wrong(api.ErrLine)}}, {"3\rx", 2, []api.Piece{wrong(api.ErrLine)}}, {"\n", 0, []api.Piece{wrong(api.ErrLine)}},
		{"00000000000000000001\r\n", 20, []api.Piece{wrong(api.ErrLong)}}, {"2\r\nabc", 5, []api.Piece{size(2), data("ab"), wrong(api.ErrForm)}}, {"2\r\nab\n", 5, []api.Piece{size(2), data("ab"), wrong(api.ErrForm)}}, {"2\r\nab\rx", 6, []api.Piece{size(2), data("ab"), wrong(api.ErrForm)}}, {"2\r\nab\r\r", 6, []api.Piece{size(2), data("ab"), wrong(api.ErrForm)}},
		{"0\r\n\n", 3, []api.Piece{wrong(api.ErrLine)}}, {"0\r\nA: b\n", 7, []api.Piece{wrong(api.ErrLine)}}, {"0\r\n" + strings.Repeat("a", 101), 103, []api.Piece{wrong(api.ErrLong)}}, {"1\r\na\r\n3 \r\n", 10, []api.Piece{size(1), data("a"), wrong(api.ErrForm)}}, {"-1\r\n", 4, []api.Piece{wrong(api.ErrForm)}},
	} {
		d := New(chunked, lim)
		feed(t, d, c.s, c.used, c.want...)
		e := api.Errno(c.want[len(c.want)-1].N)
		state(t, d, false, e)
		feed(t, d, "0\r\n\r\n", 0)
		if len(d.Close()) != 0 || d.Err() != e {
			t.Error("close")
		}
	}
	exact := New(chunked, api.Limits{Head: 8, Fields: 1, Line: 3})
	feed(t, exact, "1\r\nx\r\n0\r\nA: b\r\n\r\n", 17, size(1), data("x"), over)
}

// P24.2: closed within.
func TestCut(t *testing.T) {
	const s = "3\r\nabc\r\n0\r\nA: b\r\n\r\n"
	for i := range len(s) {
		d := New(chunked, lim)
		d.Feed(s[:i])
		if l := d.Close(); !slices.Equal(l, []api.Piece{wrong(api.ErrCut)}) {
			t.Error(i, l)
		}
		state(t, d, false, api.ErrCut)
		feed(t, d, s[i:], 0)
	}
}

// P24.2: frames and limits that may not be.
func TestArguments(t *testing.T) {
	for _, c := range []struct {
		f api.Frame
		l api.Limits
	}{
		{api.Frame{Kind: 4}, lim}, {api.Frame{Kind: -1}, lim}, {sized(-1), lim}, {api.Frame{Kind: api.Chunked, Length: -1}, lim}, {sized(math.MinInt), lim}, {chunked, api.Limits{Head: -1, Line: 5}}, {chunked, api.Limits{Head: api.MaxHead + 1, Line: 5}}, {chunked, api.Limits{Head: 5, Line: -1}}, {chunked, api.Limits{Head: 5, Line: api.MaxHead + 1}},
	} {
		d := New(c.f, c.l)
		state(t, d, false, api.ErrArg)
		feed(t, d, "x", 0, wrong(api.ErrArg))
		feed(t, d, "x", 0)
		if len(d.Close()) != 0 || len(d.Trailers()) != 0 {
			t.Error("close")
		}
	}
	for _, l := range []api.Limits{{}, {Head: api.MaxHead, Line: api.MaxHead}, {Head: 5}, {Line: 5}} {
		feed(t, New(sized(1), l), "xy", 1, data("x"), over)
	}
	for _, d := range []*Decoder{nil, {}} {
		feed(t, d, "x", 0)
		state(t, d, false, api.OK)
		if len(d.Close()) != 0 || len(d.Trailers()) != 0 {
			t.Error("nothing")
		}
	}
}

// all are the Pieces where s comes in such parts, and how many octets were used.
func all(f api.Frame, l api.Limits, s string, part func() int) ([]api.Piece, int) {
	d := New(f, l)
	var pieces []api.Piece
	used := 0
	for idle := 0; idle < 2; {
		n, p := d.Feed(s[used:min(len(s), used+part())])
		used += n
		pieces = append(pieces, p...)
		if used == len(s) || d.Done() || d.Err() != api.OK {
			idle++
		}
	}
	return joined(append(pieces, d.Close()...)), used
}

// P24.4
func TestHowOctetsCome(t *testing.T) {
	r := rand.New(rand.NewSource(21))
	parts := []string{"1\r\n", "2;x\r\n", "0\r\n", "\r\n", "a", "bc", "A: b\r\n", "\r", "\n", "3\r\nabc\r\n", "1\r\n\r\r\n", "0\r\n\r\n"}
	for range 20000 {
		s := ""
		for range r.Intn(8) {
			s += parts[r.Intn(len(parts))]
		}
		f := []api.Frame{chunked, chunked, chunked, sized(r.Intn(6)), none, closing}[r.Intn(6)]
		l := api.Limits{Head: r.Intn(15), Fields: r.Intn(3), Line: 3 + r.Intn(3), Fold: r.Intn(2)}
		a, n := all(f, l, s, func() int { return len(s) })
		b, m := all(f, l, s, func() int { return 1 + r.Intn(3) })
		if !slices.Equal(a, b) || n != m {
			t.Fatalf("%q: %v %v", s, a, b)
		}
	}
}
