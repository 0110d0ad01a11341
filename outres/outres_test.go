package outres

import (
	"math/rand"
	"slices"
	"strings"
	"testing"

	"abutment/api"
	"abutment/config"
	"abutment/connection"
	"abutment/framing"
	"abutment/head"
	"abutment/header"
	"abutment/hop"
	"abutment/plan"
)

// response makes a response's head of its lines.
func response(t *testing.T, s string) api.Head {
	t.Helper()
	h, e := head.Parse(head.Answers, api.Limits{Fields: 100}, strings.Split(s, "|")...)
	if e != api.OK {
		t.Fatal(s, e)
	}
	return h
}

// text writes a head in one line.
func text(h api.Head) string {
	return strings.TrimSuffix(strings.ReplaceAll(head.Print(h), "\r\n", "|"), "||")
}

// P35.1: each step, and their order.
func TestResponse(t *testing.T) {
	none, sized, chunked, closing := api.Frame{}, api.Frame{Kind: api.Sized, Length: 7}, api.Frame{Kind: api.Chunked}, api.Frame{Kind: api.Close}
	for _, c := range []struct {
		s     string
		out   api.Frame
		minor int
		keep  bool
		want  string
	}{
		{"HTTP/1.1 200 OK", closing, 0, false, "HTTP/1.0 200 OK|Via: 1.1 abutment|Connection: close"}, {"HTTP/1.0 200 O K", chunked, 1, true, "HTTP/1.1 200 O K|Via: 1.0 abutment|Transfer-Encoding: chunked"}, {"HTTP/1.1 404 ", sized, 0, true, "HTTP/1.0 404 |Via: 1.1 abutment|Content-Length: 7|Connection: keep-alive"}, {"HTTP/1.1 200 OK", sized, -3, true, "HTTP/1.0 200 OK|Via: 1.1 abutment|Content-Length: 7|Connection: keep-alive"}, {"HTTP/1.1 200 OK", sized, 9, false, "HTTP/1.1 200 OK|Via: 1.1 abutment|Content-Length: 7|Connection: close"},
		{"HTTP/1.1 304 x|Content-Length: 5", none, 1, true, "HTTP/1.1 304 x|Via: 1.1 abutment|Content-Length: 5"}, {"HTTP/1.1 304 x|Content-Length: 5, 6", none, 1, true, "HTTP/1.1 304 x|Via: 1.1 abutment"}, {"HTTP/1.1 200 x|Content-Length: 005", none, 1, false, "HTTP/1.1 200 x|Via: 1.1 abutment|Content-Length: 5|Connection: close"}, {"HTTP/1.1 204 x|Content-Length: 5", none, 1, true, "HTTP/1.1 204 x|Via: 1.1 abutment"}, {"HTTP/1.1 100 x|Content-Length: 5", none, 1, true, "HTTP/1.1 100 x|Via: 1.1 abutment"},
		{"HTTP/1.1 199 x|Content-Length: 5", none, 0, false, "HTTP/1.0 199 x|Via: 1.1 abutment"}, {"HTTP/1.1 200 x|Content-Length: 5", closing, 1, true, "HTTP/1.1 200 x|Via: 1.1 abutment"}, {"HTTP/1.1 200 x|Content-Length: 0", none, 0, true, "HTTP/1.0 200 x|Via: 1.1 abutment|Content-Length: 0|Connection: keep-alive"},
		{"HTTP/1.1 200 OK|Connection: x|X: 1|Keep-Alive: 5|A: 2|Cache-Control: private|Date: Sunday, 06-Nov-94 08:49:37 GMT|Via: 1.0 q|Content-Length: 4", sized, 0, false, "HTTP/1.0 200 OK|A: 2|Cache-Control: private|Date: Sun, 06 Nov 1994 08:49:37 GMT|Via: 1.0 q|Pragma: no-cache|Expires: Sun, 06 Nov 1994 08:49:37 GMT|Via: 1.1 abutment|Content-Length: 7|Connection: close"},
		{"HTTP/1.0 200 OK|Pragma: no-cache", closing, 1, false, "HTTP/1.1 200 OK|Pragma: no-cache|Cache-Control: no-cache|Via: 1.0 abutment|Connection: close"}, {"HTTP/1.1 200 OK|Cache-Control: max-age=5", closing, 0, false, "HTTP/1.0 200 OK|Cache-Control: max-age=5|Expires: Thu, 01 Jan 1970 00:00:15 GMT|Via: 1.1 abutment|Connection: close"},
	} {
		h := response(t, c.s)
		kept := slices.Clone(h.Fields)
		if got := text(Response(h, c.out, c.minor, c.keep, config.Usual(), 10)); got != c.want {
			t.Errorf("%q:\n%q\n%q", c.s, got, c.want)
		}
		if !slices.Equal(kept, h.Fields) {
			t.Error("changed")
		}
	}
	for minor, want := range map[int]int{-1: 0, 0: 0, 1: 1, 2: 1, 9: 1} {
		if got := Response(response(t, "HTTP/1.1 200 OK"), none, minor, true, config.Usual(), 0).Minor; got != want {
			t.Error(minor, got)
		}
	}
	h := response(t, "HTTP/1.1 200 OK")
	h.Method, h.Target = "GET", "/"
	if got := Response(h, closing, 1, true, config.Usual(), 0); got.Method != "" || got.Target != "" {
		t.Error(got)
	}
}

// P35.2
func TestWhatFollows(t *testing.T) {
	r := rand.New(rand.NewSource(27))
	some := []string{"Connection: x-a, close", "Connection: keep-alive, content-length, y", "X-A: 1", "Y: 2", "Content-Length: 3", "Transfer-Encoding: chunked", "Via: 1.0 q (open", "Cache-Control: no-cache", "Pragma: no-cache", "Date: x", "Expires: 0", "Keep-Alive: 5", "Z:", "Set-Cookie: a"}
	named := []string{"Content-Length", "Date", "Cache-Control", "Pragma", "Via", "Transfer-Encoding", "Connection", "Last-Modified", "Expires"}
	taken := 0
	for range 20000 {
		s := []string{"HTTP/1.0 ", "HTTP/1.1 "}[r.Intn(2)] + []string{"100 ", "200 OK", "204 ", "304 x", "404 "}[r.Intn(5)]
		for range r.Intn(7) {
			s += "|" + some[r.Intn(len(some))]
		}
		h := response(t, s)
		method := []string{"GET", "HEAD"}[r.Intn(2)]
		f, e := framing.Response(h, method)
		if e != api.OK {
			continue
		}
		taken++
		set := config.Usual()
		set.Stream = r.Intn(2)
		minor := r.Intn(2)
		out := plan.Response(f, minor, set)
		if out.Keep {
			out.Frame.Length = r.Intn(9)
		}
		keep := r.Intn(2) == 0
		g := Response(h, out.Frame, minor, keep, set, 0)
		back, e := framing.Response(g, method)
		if !head.Right(g) || back != out.Frame || e != api.OK || !header.Same(header.Without(g.Fields, named...), header.Without(hop.Strip(h.Fields), named...)) {
			t.Fatalf("%q: %q %v %d", s, text(g), back, e)
		}
		if h.Status > 199 && connection.Persists(g.Minor, g.Fields) != keep {
			t.Fatalf("%q: %q", s, text(g))
		}
	}
	if taken < 1000 {
		t.Error(taken)
	}
}
