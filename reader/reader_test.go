package reader

import (
	"math/rand"
	"reflect"
	"slices"
	"strings"
	"testing"

	"abutment/api"
	"abutment/head"
	"abutment/message"
)

var lim = api.Limits{Head: 200, Fields: 5, Line: 20}

func lines(s string) string { return strings.ReplaceAll(s, "|", "\r\n") }

var (
	top  = api.Piece{Kind: api.Top}
	over = api.Piece{Kind: api.Over}
)

func wrong(e api.Errno) api.Piece { return api.Piece{Kind: api.Wrong, N: int(e)} }
func data(s string) api.Piece     { return api.Piece{Kind: api.Data, Text: s} }

func feed(t *testing.T, r *Reader, s string, used, state int, want ...api.Piece) {
	t.Helper()
	n, l := r.Feed(lines(s))
	if n != used || !slices.Equal(l, want) || r.State() != state {
		t.Errorf("%q: %d %v %d", s, n, l, r.State())
	}
}

func zero(t *testing.T, r *Reader) {
	t.Helper()
	h := r.Head()
	if h.Method != "" || h.Status != 0 || len(h.Fields) != 0 || r.Frame() != (api.Frame{}) || len(r.Trailers()) != 0 {
		t.Error(h, r.Frame(), r.Trailers())
	}
}

// P28.1
func TestNew(t *testing.T) {
	for _, c := range []struct {
		kind, most int
		want       bool
	}{{head.Asks, 0, true}, {head.Answers, api.MaxHead, true}, {0, 5, false}, {3, 5, false}, {head.Asks, -1, false}, {head.Asks, api.MaxHead + 1, false}} {
		r := New(c.kind, api.Limits{Head: c.most})
		if (r != nil) != c.want {
			t.Error(c)
		}
		if c.want && (r.State() != Idle || r.Err() != api.OK) {
			t.Error(r.State())
		}
	}
	if Idle != 0 || Inside != 1 || Ended != 2 || Broken != 3 {
		t.Error("states")
	}
	var r *Reader
	if r.State() != Broken || r.Err() != api.ErrArg || r.Begin("GET") || len(r.Close()) != 0 {
		t.Error("nil")
	}
	feed(t, r, "x", 0, Broken)
	zero(t, r)
}

// P28.2, P28.3, P28.4: requests.
func TestRequests(t *testing.T) {
	r := New(head.Asks, lim)
	feed(t, r, "", 0, Idle)
	feed(t, r, "||", 4, Idle)
	if !r.Begin("") || !r.Begin("x") || len(r.Close()) != 0 || r.State() != Idle {
		t.Error("begin")
	}
	feed(t, r, "GET / H", 7, Inside)
	zero(t, r)
	if r.Begin("") {
		t.Error("begin within")
	}
	feed(t, r, "TTP/1.0||GET", 11, Inside, top)
	if h := r.Head(); h.Method != "GET" || r.Begin("") {
		t.Error(h)
	}
	feed(t, r, "GET", 0, Ended, over)
	feed(t, r, "GET", 0, Ended)
	if len(r.Close()) != 0 || r.State() != Ended || r.Head().Method != "GET" || !r.Begin("") || r.State() != Idle {
		t.Error("ended")
	}
	zero(t, r)
	feed(t, r, "PUT / HTTP/1.1|Host: a|Transfer-Encoding: chunked||3|", 55, Inside, top)
	if f := r.Frame(); f != (api.Frame{Kind: api.Chunked}) || len(r.Trailers()) != 0 {
		t.Error(f)
	}
	feed(t, r, "3|ab", 5, Inside, api.Piece{Kind: api.Size, N: 3}, data("ab"))
	feed(t, r, "c|0|T: 1||GET", 14, Ended, data("c"), over)
	if l := r.Trailers(); !slices.Equal(l, []api.Field{{Name: "T", Value: "1"}}) || r.Err() != api.OK {
		t.Error(l)
	}
	r.Head().Fields[0].Name = "x"
	if r.Head().Fields[0].Name != "Host" {
		t.Error("shared")
	}
}

// P28.3, P28.4: what is wrong.
func TestWrong(t *testing.T) {
	for _, c := range []struct {
		kind int
		s    string
		used int
		e    api.Errno
	}{
		{head.Asks, "G\n", 1, api.ErrLine}, {head.Asks, "GET / HTTP/1.1||x", 18, api.ErrHost}, {head.Asks, "GET /||x", 9, api.ErrForm}, {head.Answers, "HTTP/1.1 101 a||x", 18, api.ErrStatus}, {head.Answers, "|", 2, api.ErrEnd}, {head.Answers, "HTTP/1.1 200 a|Content-Length: x||", 37, api.ErrFrame},
	} {
		r := New(c.kind, lim)
		feed(t, r, c.s, c.used, Broken, wrong(c.e))
		feed(t, r, "x", 0, Broken)
		if r.Err() != c.e || r.Begin("") || len(r.Close()) != 0 {
			t.Error(c, r.Err())
		}
		zero(t, r)
	}
	r := New(head.Asks, lim)
	feed(t, r, "PUT / HTTP/1.1|Host: a|Transfer-Encoding: chunked||", 55, Inside, top)
	feed(t, r, "x|", 3, Broken, wrong(api.ErrForm))
	if r.Err() != api.ErrForm || r.Head().Method != "PUT" || r.Frame().Kind != api.Chunked || r.Begin("") {
		t.Error("within")
	}
	bad := New(head.Asks, api.Limits{Head: 50, Line: -1})
	feed(t, bad, "GET / HTTP/1.0||", 18, Inside, top)
	feed(t, bad, "", 0, Broken, wrong(api.ErrArg))
}

// P28.2, P28.4: responses, and closing.
func TestResponses(t *testing.T) {
	r := New(head.Answers, lim)
	feed(t, r, "HTTP/1.0 200 OK||", 19, Inside, top)
	if r.Frame() != (api.Frame{Kind: api.Close}) {
		t.Error("a first message is one to the method of no name")
	}
	feed(t, r, "abc", 3, Inside, data("abc"))
	if l := r.Close(); !slices.Equal(l, []api.Piece{over}) || r.State() != Ended || r.Err() != api.OK {
		t.Error(l)
	}
	r.Begin("HEAD")
	feed(t, r, "HTTP/1.0 200 OK|Content-Length: 3||abc", 38, Inside, top)
	if r.Frame() != (api.Frame{}) {
		t.Error("frame")
	}
	if l := r.Close(); !slices.Equal(l, []api.Piece{over}) || r.State() != Ended || len(r.Close()) != 0 {
		t.Error(l)
	}
	r.Begin("HEAD")
	r.Begin("GET")
	feed(t, r, "HTTP/1.0 200 OK|Content-Length: 3||", 38, Inside, top)
	feed(t, r, "", 0, Inside)
	if l := r.Close(); !slices.Equal(l, []api.Piece{wrong(api.ErrCut)}) || r.State() != Broken || r.Err() != api.ErrCut {
		t.Error(l)
	}
	s := New(head.Answers, lim)
	feed(t, s, "H", 1, Inside)
	if l := s.Close(); !slices.Equal(l, []api.Piece{wrong(api.ErrCut)}) || s.Err() != api.ErrCut {
		t.Error(l)
	}
}

// all are the messages that are read where s comes in such parts, and the reader behind them.
func all(kind int, s string, closed bool, methods []string, part func() int) ([]api.Message, *Reader) {
	r := New(kind, lim)
	var l []api.Message
	var m api.Message
	next := func() bool {
		if kind == head.Answers && len(methods) == 0 {
			return false
		}
		method := ""
		if kind == head.Answers {
			method = methods[0]
		}
		return r.Begin(method)
	}
	take := func(pieces []api.Piece) {
		for _, p := range pieces {
			m.Body += p.Text
			if p.Kind == api.Size {
				m.Sizes = append(m.Sizes, p.N)
			}
		}
		if r.State() != Ended {
			return
		}
		m.Head, m.Frame, m.Trailers = r.Head(), r.Frame(), r.Trailers()
		l = append(l, m)
		if kind == head.Answers && m.Head.Status > 199 {
			methods = methods[1:]
		}
		m = api.Message{}
	}
	used := 0
	if !next() {
		return l, r
	}
	for idle := 0; idle < 3; {
		n, p := r.Feed(s[used:min(len(s), used+part())])
		used += n
		take(p)
		if n == 0 && len(p) == 0 {
			idle++
		}
		if r.State() == Ended && !next() {
			return l, r
		}
	}
	if closed {
		take(r.Close())
		next()
	}
	return l, r
}

// P28.5
func TestHowOctetsCome(t *testing.T) {
	r := rand.New(rand.NewSource(24))
	requests := []string{"GET / HTTP/1.0||", "POST /p HTTP/1.1|Host: a|Content-Length: 3||abc", "PUT /c HTTP/1.1|Host: a|Transfer-Encoding: chunked||2;x|ab|1|c|0|T: 1||", "||", "GET / HTTP/1.1||", "P", "\r", "\n"}
	responses := []string{"HTTP/1.1 200 OK|Content-Length: 1||a", "HTTP/1.1 204 ||", "HTTP/1.1 100 ||", "HTTP/1.1 200 OK|Transfer-Encoding: chunked||2|ab|0|A:||", "HTTP/1.1 200 ||xyz", "H", "|", "HTTP/1.1 101 ||"}
	for range 5000 {
		s, kind := "", head.Asks
		from := requests
		if r.Intn(2) == 0 {
			kind, from = head.Answers, responses
		}
		var methods []string
		for range r.Intn(5) {
			s += from[min(r.Intn(len(from)), r.Intn(len(from)))]
			methods = append(methods, []string{"GET", "HEAD", "PUT"}[r.Intn(3)])
		}
		s = lines(s)
		closed := r.Intn(2) == 0
		l, x := all(kind, s, closed, methods, func() int { return 1 + r.Intn(5) })
		want, tail := message.Requests(s, closed, lim)
		if kind == head.Answers {
			want, tail = message.Responses(s, closed, methods, lim)
		}
		if len(l) != len(want) || len(l) > 0 && !reflect.DeepEqual(l, want) {
			t.Fatalf("%q: %v %v", s, l, want)
		}
		state := map[int]int{api.Empty: Idle, api.Part: Inside, api.Bad: Broken, api.Extra: Ended}[tail.Kind]
		if len(methods) == len(want) && kind == head.Answers && len(methods) > 0 && x.State() == Ended {
			state = Ended // nothing more is asked for
		}
		if tail.Kind == api.Extra && x.State() == Idle {
			state = Idle
		}
		if x.State() != state || x.Err() != tail.Err {
			t.Fatalf("%q %v: %d %d, %v", s, closed, x.State(), x.Err(), tail)
		}
	}
}
