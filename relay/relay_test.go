package relay

import (
	"math"
	"math/rand"
	"slices"
	"strings"
	"testing"

	"abutment/api"
	"abutment/body"
)

var (
	chunked = api.Out{Frame: api.Frame{Kind: api.Chunked}}
	keep    = api.Out{Frame: api.Frame{Kind: api.Sized}, Keep: true}
	over    = api.Piece{Kind: api.Over}
)

func data(s string) api.Piece { return api.Piece{Kind: api.Data, Text: s} }
func size(n int) api.Piece    { return api.Piece{Kind: api.Size, N: n} }

func put(t *testing.T, r *Relay, p api.Piece, trailers []api.Field, want string, e api.Errno) {
	t.Helper()
	if got, err := r.Put(p, trailers); got != strings.ReplaceAll(want, "|", "\r\n") || err != e {
		t.Errorf("%v: %q %d", p, got, err)
	}
}

var trailers = []api.Field{{Name: "X", Value: "1"}, {Name: "Host", Value: "a"}, {Name: "Y"}}

// rest is what is told behind the end.
func rest(t *testing.T, r *Relay, e api.Errno) {
	t.Helper()
	for _, p := range []api.Piece{data("x"), size(3), over, {Kind: api.Top}, {Kind: api.Wrong, N: 3}} {
		put(t, r, p, trailers, "", e)
	}
}

// P37.2: None, Sized, Close, and other frames.
func TestPlain(t *testing.T) {
	for kind := -1; kind < 6; kind++ {
		if kind == api.Chunked {
			continue
		}
		r := New(api.Out{Frame: api.Frame{Kind: kind, Length: 9}, Chunk: 2}, 1, 1)
		text := "abc|"
		if kind < 0 || kind > api.Close {
			text = ""
		}
		put(t, r, api.Piece{Kind: api.Top}, nil, "", api.OK)
		put(t, r, size(5), nil, "", api.OK)
		put(t, r, data("abc\r\n"), nil, text, api.OK)
		put(t, r, api.Piece{Kind: 9, Text: "x"}, nil, "", api.OK)
		put(t, r, api.Piece{Kind: api.Wrong, N: 3, Text: "x"}, nil, "", api.OK)
		if r.Done() {
			t.Error("done")
		}
		put(t, r, over, trailers, "", api.OK)
		if !r.Done() || r.Body() != "" || len(r.Merged()) != 0 {
			t.Error("over")
		}
		rest(t, r, api.OK)
	}
}

// P37.2: chunks as they come.
func TestChunks(t *testing.T) {
	for _, drop := range []bool{false, true} {
		keeps, last := 7, "0|X: 1|Y:||"
		if drop {
			keeps, last = 0, "0||"
		}
		r := New(chunked, 1, keeps)
		put(t, r, size(26), nil, "1a|", api.OK)
		put(t, r, data("abc"), nil, "abc", api.OK)
		put(t, r, data(strings.Repeat("x", 23)), nil, strings.Repeat("x", 23)+"|", api.OK)
		put(t, r, size(1), nil, "1|", api.OK)
		put(t, r, data(""), nil, "", api.OK)
		put(t, r, data("\n"), nil, "\n|", api.OK)
		put(t, r, size(0), nil, "", api.OK)
		put(t, r, api.Piece{Kind: api.Wrong, N: 3}, nil, "", api.OK)
		put(t, r, over, trailers, last, api.OK)
		if !r.Done() || r.Body() != "" || len(r.Merged()) != 0 {
			t.Error("over")
		}
		rest(t, r, api.OK)
	}
	r := New(api.Out{Frame: chunked.Frame, Chunk: -4}, -1, 1)
	put(t, r, size(2), nil, "2|", api.OK)
	put(t, r, data("ab"), nil, "ab|", api.OK)
	for range 2 { // octets of no chunk go as they are
		put(t, r, data("c"), nil, "c", api.OK)
		put(t, r, size(-1), nil, "", api.OK)
	}
}

// P37.2: chunks of so many octets each.
func TestGathered(t *testing.T) {
	out := api.Out{Frame: chunked.Frame, Chunk: 2}
	r := New(out, 1, 1)
	put(t, r, data("abc"), nil, "2|ab|", api.OK)
	put(t, r, size(9), nil, "", api.OK)
	put(t, r, over, trailers, "1|c|0||", api.OK)
	rest(t, r, api.OK)
	s := New(out, 1, 1)
	put(t, s, data("a"), nil, "", api.OK)
	put(t, s, data("bcdef"), nil, "2|ab|2|cd|2|ef|", api.OK)
	put(t, s, over, trailers, "0||", api.OK)
	if !s.Done() || s.Body() != "" || len(s.Merged()) != 0 {
		t.Error("over")
	}
	one := New(api.Out{Frame: chunked.Frame, Chunk: 1}, 1, 1)
	put(t, one, data("ab"), nil, "1|a|1|b|", api.OK)
	e := New(api.Out{Frame: chunked.Frame, Chunk: math.MaxInt}, 1, 1)
	put(t, e, over, nil, "0||", api.OK)
}

// P37.1, P37.2: kept ones.
func TestKept(t *testing.T) {
	for _, keeps := range []int{0, 1, -1} {
		r := New(keep, 3, keeps)
		put(t, r, size(2), nil, "", api.OK)
		put(t, r, data("ab"), nil, "", api.OK)
		put(t, r, data("c"), nil, "", api.OK)
		if r.Body() != "" || len(r.Merged()) != 0 || r.Done() {
			t.Error("too early")
		}
		put(t, r, over, trailers, "", api.OK)
		want := []api.Field{{Name: "X", Value: "1"}, {Name: "Y"}}
		if keeps == 0 {
			want = nil
		}
		if !r.Done() || r.Body() != "abc" || !slices.Equal(r.Merged(), want) {
			t.Error(r.Body(), r.Merged())
		}
		rest(t, r, api.OK)
		if r.Body() != "abc" {
			t.Error("changed")
		}
	}
	for _, most := range []int{3, 0, -1, math.MinInt} {
		r := New(keep, most, 1)
		put(t, r, data("abc"[:max(0, most)]), nil, "", api.OK)
		put(t, r, data("d"), nil, "", api.ErrFull)
		rest(t, r, api.ErrFull)
		if r.Done() || r.Body() != "" || len(r.Merged()) != 0 {
			t.Error("full")
		}
	}
	r := New(api.Out{Frame: chunked.Frame, Keep: true, Chunk: 5}, 9, 1)
	put(t, r, data("abc"), nil, "", api.OK)
	put(t, r, over, nil, "", api.OK)
	if r.Body() != "abc" {
		t.Error("kept")
	}
}

// P37.2: a nil one, and a plain one.
func TestNothing(t *testing.T) {
	for _, r := range []*Relay{nil, {}} {
		rest(t, r, api.ErrArg)
		if r.Done() || r.Body() != "" || len(r.Merged()) != 0 {
			t.Error("nothing")
		}
	}
}

// P37.3
func TestWhatFollows(t *testing.T) {
	rnd := rand.New(rand.NewSource(25))
	lim := api.Limits{Head: 100, Fields: 9, Line: 20}
	for range 3000 {
		var pieces []api.Piece
		text := ""
		for range rnd.Intn(5) {
			s := strings.Repeat(string(rune('a'+rnd.Intn(26))), 1+rnd.Intn(9))
			text += s
			pieces = append(pieces, size(len(s)), data(s))
		}
		out := []api.Out{chunked, {Frame: chunked.Frame, Chunk: 1 + rnd.Intn(7)}, {Frame: api.Frame{Kind: api.Sized, Length: len(text)}}, {Frame: api.Frame{Kind: api.Close}}}[rnd.Intn(4)]
		run := func(cut, end bool) string {
			r, s := New(out, 0, 1), ""
			for _, p := range pieces {
				for cut && p.Kind == api.Data && len(p.Text) > 1 {
					n := 1 + rnd.Intn(len(p.Text)-1)
					more, _ := r.Put(data(p.Text[:n]), nil)
					s += more
					p.Text = p.Text[n:]
				}
				more, e := r.Put(p, nil)
				if e != api.OK {
					t.Fatal(e)
				}
				s += more
			}
			if end {
				more, _ := r.Put(over, trailers)
				s += more
			}
			return s
		}
		whole := run(false, true)
		if run(true, true) != whole {
			t.Fatalf("%v %v", out, pieces)
		}
		d := body.New(out.Frame, lim)
		used, l := d.Feed(whole)
		l = append(l, d.Close()...)
		back := ""
		for _, p := range l {
			back += p.Text
		}
		if used != len(whole) || !d.Done() || back != text {
			t.Fatalf("%v %q: %q", out, text, whole)
		}
		part := body.New(out.Frame, lim)
		part.Feed(run(true, false))
		if part.Done() && out.Frame.Kind == api.Chunked {
			t.Fatalf("%v %v", out, pieces)
		}
	}
}
