package framing

import (
	"testing"

	"abutment/api"
)

func fields(s ...string) []api.Field {
	var l []api.Field
	for i := 0; i < len(s); i += 2 {
		l = append(l, api.Field{Name: s[i], Value: s[i+1]})
	}
	return l
}

var (
	none    = api.Frame{}
	chunked = api.Frame{Kind: api.Chunked}
	closing = api.Frame{Kind: api.Close}
)

func sized(n int) api.Frame { return api.Frame{Kind: api.Sized, Length: n} }

// tellings are what fields say of a body's end, in both versions.
var tellings = []struct {
	l      []api.Field
	minor  int
	want   api.Frame
	e      api.Errno
	silent bool
}{
	{nil, 1, none, api.OK, true}, {nil, 0, none, api.OK, true}, {fields("content-length", "5, 5"), 0, sized(5), api.OK, false}, {fields("Content-Length", "0"), 1, sized(0), api.OK, false}, {fields("Transfer-Encoding", "Chunked"), 1, chunked, api.OK, false},
	{fields("Transfer-Encoding", "chunked"), 0, none, api.ErrFrame, false}, {fields("Transfer-Encoding", "chunked"), -1, none, api.ErrFrame, false}, {fields("Transfer-Encoding", "chunked", "Content-Length", "5"), 1, none, api.ErrFrame, false}, {fields("Content-Length", "x", "transfer-encoding", "chunked"), 1, none, api.ErrFrame, false},
	{fields("Transfer-Encoding", "gzip, chunked", "Content-Length", "x"), 1, none, api.ErrCoding, false}, {fields("Transfer-Encoding", "gzip, chunked"), 0, none, api.ErrCoding, false}, {fields("Transfer-Encoding", "gzip"), 1, none, api.ErrFrame, false}, {fields("Transfer-Encoding", ""), 1, none, api.ErrFrame, false},
	{fields("Content-Length", "5", "Content-Length", "6"), 1, none, api.ErrFrame, false}, {fields("Content-Length", "-1"), 1, none, api.ErrFrame, false},
}

// P23.1, P23.2, P23.4
func TestRequest(t *testing.T) {
	for _, c := range tellings {
		h := api.Head{Method: "GET", Target: "/", Minor: c.minor, Fields: append(fields("Host", "a"), c.l...)}
		if f, e := Request(h); f != c.want || e != c.e {
			t.Errorf("%v: %v %d", h, f, e)
		}
	}
	for _, c := range []struct {
		minor int
		l     []api.Field
		want  api.Frame
		e     api.Errno
	}{
		{1, nil, none, api.ErrHost}, {0, nil, none, api.OK}, {-1, nil, none, api.OK}, {1, fields("Host", "a", "host", "a"), none, api.ErrHost}, {0, fields("Host", "a", "host", "a"), none, api.ErrHost}, {1, fields("Host", ""), none, api.ErrHost}, {0, fields("Host", ""), none, api.ErrHost}, {0, fields("HOST", "a:x"), none, api.ErrHost},
		{1, fields("HOST", "A:81"), none, api.OK}, {2, nil, none, api.ErrHost}, {1, fields("Content-Length", "x"), none, api.ErrHost}, {0, fields("Content-Length", "x", "Host", "a b"), none, api.ErrHost}, {0, fields("Content-Length", "3"), sized(3), api.OK}, {1, fields("Host", "a:70000"), none, api.ErrHost},
	} {
		if f, e := Request(api.Head{Method: "GET", Minor: c.minor, Fields: c.l}); f != c.want || e != c.e {
			t.Errorf("%d %v: %v %d", c.minor, c.l, f, e)
		}
	}
}

// P23.1, P23.3, P23.4
func TestResponse(t *testing.T) {
	for _, c := range tellings {
		for _, status := range []int{100, 101, 199, 200, 204, 205, 304, 404, 599} {
			for _, method := range []string{"GET", "HEAD", "head", "CONNECT", ""} {
				want := c.want
				if c.e == api.OK && c.silent {
					want = closing
				}
				bodiless := method == "HEAD" || status < 200 || status == 204 || status == 304
				if bodiless {
					want = none
				}
				if Bodiless(status, method) != bodiless {
					t.Error(status, method)
				}
				h := api.Head{Status: status, Minor: c.minor, Fields: c.l}
				if f, e := Response(h, method); f != want || e != c.e {
					t.Errorf("%v %s: %v %d", h, method, f, e)
				}
			}
		}
	}
	for _, status := range []int{-1, 0, 99, 200, 203, 205, 303, 305, 1000} {
		if Bodiless(status, "GET") {
			t.Error(status)
		}
	}
}
