package outreq

import (
	"math/rand"
	"reflect"
	"slices"
	"strings"
	"testing"

	"abutment/api"
	"abutment/config"
	"abutment/framing"
	"abutment/head"
	"abutment/header"
	"abutment/hop"
	"abutment/plan"
)

// request makes a request's head of its lines.
func request(t *testing.T, s string) api.Head {
	t.Helper()
	h, e := head.Parse(head.Asks, api.Limits{Fields: 100}, strings.Split(s, "|")...)
	if e != api.OK {
		t.Fatal(s, e)
	}
	return h
}

// text writes a head in one line.
func text(h api.Head) string {
	if reflect.DeepEqual(h, api.Head{}) {
		return ""
	}
	return strings.TrimSuffix(strings.ReplaceAll(head.Print(h), "\r\n", "|"), "||")
}

// P34.1
func TestCheck(t *testing.T) {
	for _, c := range []struct {
		s         string
		authority string
		minor     int
		e         api.Errno
	}{
		{"GET / HTTP/1.1|Host: a", "", 1, api.OK}, {"CONNECT x HTTP/1.1|Via: 1 abutment", "", 1, api.ErrMethod}, {"connect / HTTP/1.1|Host: a", "", 1, api.OK}, {"GET x HTTP/1.1|Via: 1 abutment", "", 1, api.ErrTarget}, {"GET * HTTP/1.1|Host: a", "", 1, api.ErrTarget}, {"OPTIONS * HTTP/1.1|Host: a", "", 1, api.OK},
		{"GET / HTTP/1.1|Via: 1.0 x, 1.1 ABUTMENT (y)|Expect: x", "", 1, api.ErrLoop}, {"GET / HTTP/1.1|Via: 1.0 abutment2|Host: a", "", 1, api.OK}, {"GET / HTTP/1.1|Expect: x", "", 1, api.ErrExpect}, {"GET / HTTP/1.1|Expect: 100-Continue|Host: a", "", 1, api.OK}, {"GET / HTTP/1.1|Expect: 100-continue|Expect: 100-continue|Host: a", "", 1, api.ErrExpect}, {"GET / HTTP/1.1|Expect:|Host: a", "", 1, api.ErrExpect},
		{"GET / HTTP/1.0|Expect: x|Host: a", "", 1, api.OK}, {"GET / HTTP/1.0", "", 1, api.ErrHost}, {"GET / HTTP/1.0", "", 0, api.OK}, {"GET / HTTP/1.0", "b", 1, api.OK}, {"GET http://c/ HTTP/1.0|Host: a b", "", 1, api.OK}, {"GET / HTTP/1.0|Host: a b", "c", 1, api.ErrHost},
	} {
		set := config.Usual()
		set.Authority, set.Minor = c.authority, c.minor
		h := request(t, c.s)
		if e := Check(h, set); e != c.e {
			t.Errorf("%q: %d", c.s, e)
		}
		if got := text(Request(h, api.Frame{}, false, set, 0)); (got == "") != (c.e != api.OK) {
			t.Errorf("%q: %q", c.s, got)
		}
	}
}

// P34.1
func TestExpects(t *testing.T) {
	for _, c := range []struct {
		s    string
		f    api.Frame
		want bool
	}{
		{"GET / HTTP/1.1|Expect: x", api.Frame{Kind: api.Chunked}, true}, {"GET / HTTP/1.1|expect: 100-continue", api.Frame{Kind: api.Sized, Length: 1}, true}, {"GET / HTTP/1.1|Expect: x", api.Frame{Kind: api.Sized}, false}, {"GET / HTTP/1.1|Expect: x", api.Frame{}, false}, {"GET / HTTP/1.1|Expect: x", api.Frame{Kind: api.Close}, false}, {"GET / HTTP/1.0|Expect: x", api.Frame{Kind: api.Chunked}, false}, {"GET / HTTP/1.1", api.Frame{Kind: api.Chunked}, false},
	} {
		if got := Expects(request(t, c.s), c.f); got != c.want {
			t.Errorf("%q %v: %v", c.s, c.f, got)
		}
	}
}

// P34.2: each step, and their order.
func TestRequest(t *testing.T) {
	none, sized, chunked := api.Frame{}, api.Frame{Kind: api.Sized, Length: 7}, api.Frame{Kind: api.Chunked}
	for _, c := range []struct {
		s            string
		out          api.Frame
		expects      bool
		minor, reuse int
		want         string
	}{
		{"GET http://a.b/c HTTP/1.0", none, false, 1, 1, "GET /c HTTP/1.1|Host: a.b|Via: 1.0 abutment"}, {"GET /c HTTP/1.1|Host: A:80|X: y", none, false, 1, 1, "GET /c HTTP/1.1|Host: A:80|X: y|Via: 1.1 abutment"}, {"GET / HTTP/1.1|Host: a", none, false, 0, 1, "GET / HTTP/1.0|Host: a|Via: 1.1 abutment|Connection: keep-alive"},
		{"GET / HTTP/1.1|Host: a", none, false, 0, 0, "GET / HTTP/1.0|Host: a|Via: 1.1 abutment|Connection: close"}, {"GET / HTTP/1.1|Host: a", none, false, 1, 0, "GET / HTTP/1.1|Host: a|Via: 1.1 abutment|Connection: close"}, {"OPTIONS http://a HTTP/1.1|Host: b", none, false, 1, 1, "OPTIONS * HTTP/1.1|Host: a|Via: 1.1 abutment"},
		{"PUT / HTTP/1.1|Connection: close, x, host|X: 1|TE: trailers|Host: a|Content-Length: 9|Expect: 100-continue|Date: Sunday, 06-Nov-94 08:49:37 GMT|Y: 2", sized, true, 1, 1, "PUT / HTTP/1.1|Host: a|Date: Sun, 06 Nov 1994 08:49:37 GMT|Y: 2|Expect: 100-continue|Via: 1.1 abutment|Content-Length: 7"},
		{"PUT / HTTP/1.1|Host: a|Transfer-Encoding: chunked|Cache-Control: no-cache|Via: 1.0 z", chunked, false, 0, 0, "PUT / HTTP/1.0|Host: a|Cache-Control: no-cache|Via: 1.0 z|Pragma: no-cache|Via: 1.1 abutment|Transfer-Encoding: chunked|Connection: close"}, {"GET / HTTP/1.0|Pragma: no-cache|Expect: x", none, false, 1, 1, "GET / HTTP/1.1|Pragma: no-cache|Host: auth|Cache-Control: no-cache|Via: 1.0 abutment"},
		{"GET / HTTP/1.0|Content-Length: 4", none, false, 1, 1, "GET / HTTP/1.1|Host: auth|Via: 1.0 abutment"}, {"GET / HTTP/1.0|Expect: x", none, true, 1, 1, "GET / HTTP/1.1|Expect: 100-continue|Host: auth|Via: 1.0 abutment"},
	} {
		set := config.Usual()
		set.Authority, set.Minor, set.Reuse = "auth", c.minor, c.reuse
		h := request(t, c.s)
		kept := slices.Clone(h.Fields)
		if got := text(Request(h, c.out, c.expects, set, 0)); got != c.want {
			t.Errorf("%q:\n%q\n%q", c.s, got, c.want)
		}
		if !slices.Equal(kept, h.Fields) {
			t.Error("changed")
		}
	}
}

// P34.3
func TestWhatFollows(t *testing.T) {
	r := rand.New(rand.NewSource(26))
	some := []string{"Host: a", "Connection: x-a, close", "Connection: host, via, content-length, y", "X-A: 1", "Y: 2", "Content-Length: 3", "Transfer-Encoding: chunked", "Via: 1.0 q (open", "Expect: 100-continue", "Cache-Control: no-cache", "Pragma: no-cache", "Date: x", "TE: trailers", "Keep-Alive: 5", "Z:"}
	named := []string{"Content-Length", "Expect", "Host", "Date", "Cache-Control", "Pragma", "Via", "Transfer-Encoding", "Connection", "Last-Modified", "Expires", "If-Modified-Since", "If-Unmodified-Since"}
	taken := 0
	for range 20000 {
		s := "PUT " + []string{"/", "http://b:81/c"}[r.Intn(2)] + []string{" HTTP/1.0", " HTTP/1.1"}[r.Intn(2)]
		for range r.Intn(7) {
			s += "|" + some[r.Intn(len(some))]
		}
		h := request(t, s)
		f, e := framing.Request(h)
		set := config.Usual()
		set.Minor, set.Reuse, set.Authority = r.Intn(2), r.Intn(2), []string{"", "auth:5"}[r.Intn(2)]
		if e != api.OK || Check(h, set) != api.OK {
			continue
		}
		taken++
		out := plan.Request(f, set)
		if out.Keep {
			out.Frame.Length = r.Intn(9)
		}
		g := Request(h, out.Frame, r.Intn(2) == 0, set, 0)
		back, e := framing.Request(g)
		if !head.Right(g) || back != out.Frame || e != api.OK || !header.Same(header.Without(g.Fields, named...), header.Without(hop.Strip(h.Fields), named...)) {
			t.Fatalf("%q: %q %v %d", s, text(g), back, e)
		}
	}
	if taken < 1000 {
		t.Error(taken)
	}
}
