package start

import (
	"math"
	"reflect"
	"testing"

	"abutment/api"
)

// P15.1
func TestMinor(t *testing.T) {
	for _, c := range []struct {
		s string
		n int
		e api.Errno
	}{
		{"HTTP/1.0", 0, api.OK}, {"HTTP/1.1", 1, api.OK}, {"HTTP/1.2", 1, api.OK}, {"HTTP/1.9", 1, api.OK}, {"HTTP/2.0", 0, api.ErrVersion}, {"HTTP/0.9", 0, api.ErrVersion}, {"HTTP/2.1", 0, api.ErrVersion},
		{"", 0, api.ErrForm}, {"HTTP/", 0, api.ErrForm}, {"http/1.1", 0, api.ErrForm}, {"HTTP/1", 0, api.ErrForm}, {"HTTP/1.", 0, api.ErrForm}, {"HTTP/1.10", 0, api.ErrForm}, {"HTTP/11.1", 0, api.ErrForm}, {"HTTP/1,1", 0, api.ErrForm}, {"HTTP/a.1", 0, api.ErrForm}, {"HTTP/1.a", 0, api.ErrForm},
		{" HTTP/1.1", 0, api.ErrForm}, {"HTTP/1.1 ", 0, api.ErrForm}, {"HTTP1.1", 0, api.ErrForm}, {"HTTP/1:1", 0, api.ErrForm}, {"HTTP/2.x", 0, api.ErrForm}, {"HTTP//.1", 0, api.ErrForm},
	} {
		if n, e := Minor(c.s); n != c.n || e != c.e {
			t.Errorf("%q: %d %d", c.s, n, e)
		}
	}
	for n, want := range map[int]string{0: "HTTP/1.0", -1: "HTTP/1.0", math.MinInt: "HTTP/1.0", 1: "HTTP/1.1", 2: "HTTP/1.1", math.MaxInt: "HTTP/1.1"} {
		if Version(n) != want {
			t.Error(n, Version(n))
		}
	}
}

// P15.2, P15.5
func TestRequest(t *testing.T) {
	for line, want := range map[string]api.Head{"GET / HTTP/1.1": {Method: "GET", Target: "/", Minor: 1}, "a!b http://x HTTP/1.0": {Method: "a!b", Target: "http://x"}, "G * HTTP/1.7": {Method: "G", Target: "*", Minor: 1}} {
		h, e := Request(line)
		if !reflect.DeepEqual(h, want) || e != api.OK {
			t.Errorf("%q: %v %d", line, h, e)
		}
		if again, e := Request(Line(h)); !reflect.DeepEqual(again, h) || e != api.OK {
			t.Errorf("%q: %v", line, again)
		}
	}
	for _, c := range []struct {
		line string
		e    api.Errno
	}{
		{"", api.ErrForm}, {"GET", api.ErrForm}, {"GET /", api.ErrForm}, {"GET / HTTP/1.1 ", api.ErrForm}, {"GET  / HTTP/1.1", api.ErrForm}, {" GET / HTTP/1.1", api.ErrForm}, {"G\x00T / x y", api.ErrForm}, {"GET\t/\tHTTP/1.1", api.ErrForm},
		{" / HTTP/1.1", api.ErrName}, {"G:T / HTTP/1.1", api.ErrName}, {"G:T \xff x", api.ErrName}, {"\tGET / HTTP/1.1", api.ErrName},
		{"GET  HTTP/1.1", api.ErrTarget}, {"GET /\xff x", api.ErrTarget}, {"GET /\t HTTP/1.1", api.ErrTarget}, {"GET / ", api.ErrForm}, {"GET / HTTP/1", api.ErrForm}, {"GET / http/1.1", api.ErrForm}, {"GET / HTTP/2.0", api.ErrVersion}, {"GET / HTTP/1.1\t", api.ErrForm},
	} {
		if h, e := Request(c.line); !reflect.DeepEqual(h, api.Head{}) || e != c.e {
			t.Errorf("%q: %v %d", c.line, h, e)
		}
	}
}

// P15.3, P15.5
func TestStatus(t *testing.T) {
	for line, want := range map[string]api.Head{
		"HTTP/1.0 200 OK": {Status: 200, Reason: "OK"}, "HTTP/1.1 100": {Minor: 1, Status: 100}, "HTTP/1.1 599 ": {Minor: 1, Status: 599}, "HTTP/1.3 404  a\tb \xff ": {Minor: 1, Status: 404, Reason: " a\tb \xff "},
	} {
		h, e := Status(line)
		if !reflect.DeepEqual(h, want) || e != api.OK {
			t.Errorf("%q: %v %d", line, h, e)
		}
		if again, e := Status(Line(h)); !reflect.DeepEqual(again, h) || e != api.OK {
			t.Errorf("%q: %v", line, again)
		}
	}
	for _, c := range []struct {
		line string
		e    api.Errno
	}{
		{"", api.ErrForm}, {"HTTP/1.1", api.ErrForm}, {"HTTP/1.1 ", api.ErrForm}, {"HTTP/1.1 20", api.ErrForm}, {"HTTP/1.1 2000", api.ErrForm}, {"HTTP/1.1 200OK", api.ErrForm}, {"HTTP/1.1 200\tOK", api.ErrForm}, {"HTTP/1.1  200 OK", api.ErrForm}, {" HTTP/1.1 200 OK", api.ErrForm},
		{"HTTP/1.1 2x0 OK", api.ErrForm}, {"HTTP/1.1 +20 OK", api.ErrForm}, {"http/1.1 200 OK", api.ErrForm}, {"HTTP/2 200 OK", api.ErrForm}, {"HTTP/2.0 2x0", api.ErrForm}, {"HTTP/2.0 999x", api.ErrForm}, {"HTTP/1.1\t200 OK", api.ErrForm},
		{"HTTP/2.0 099 \x00", api.ErrVersion}, {"HTTP/2.0 200 OK", api.ErrVersion}, {"HTTP/1.1 099 \x00", api.ErrStatus}, {"HTTP/1.1 600", api.ErrStatus}, {"HTTP/1.1 000", api.ErrStatus}, {"HTTP/1.1 999 a", api.ErrStatus}, {"HTTP/1.1 200 \x00", api.ErrValue}, {"HTTP/1.1 200 a\x7f", api.ErrValue},
	} {
		if h, e := Status(c.line); !reflect.DeepEqual(h, api.Head{}) || e != c.e {
			t.Errorf("%q: %v %d", c.line, h, e)
		}
	}
}

// P15.4
func TestLine(t *testing.T) {
	for _, c := range []struct {
		h    api.Head
		want string
	}{
		{api.Head{Method: "GET", Target: "/", Minor: 5, Status: 3, Reason: "x"}, "GET / HTTP/1.1"}, {api.Head{Method: "A"}, "A  HTTP/1.0"}, {api.Head{Target: "/", Status: 7, Reason: "r"}, "HTTP/1.0 007 r"}, {api.Head{Minor: 1, Status: 204}, "HTTP/1.1 204 "}, {api.Head{Status: -5}, "HTTP/1.0 -5 "}, {api.Head{Status: 12345}, "HTTP/1.0 12345 "},
	} {
		if got := Line(c.h); got != c.want {
			t.Errorf("%q", got)
		}
	}
}

// P15.4
func TestReason(t *testing.T) {
	want := map[int]string{
		100: "Continue", 400: "Bad Request", 408: "Request Timeout", 413: "Content Too Large", 417: "Expectation Failed", 431: "Request Header Fields Too Large", 501: "Not Implemented", 502: "Bad Gateway", 504: "Gateway Timeout", 505: "HTTP Version Not Supported", 508: "Loop Detected",
	}
	for n := -10; n < 1000; n++ {
		if Reason(n) != want[n] {
			t.Error(n, Reason(n))
		}
	}
}
