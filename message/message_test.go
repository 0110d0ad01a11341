package message

import (
	"math/rand"
	"reflect"
	"strings"
	"testing"

	"abutment/api"
)

var lim = api.Limits{Head: 200, Fields: 5, Line: 20}

func fields(s ...string) []api.Field {
	var l []api.Field
	for i := 0; i < len(s); i += 2 {
		l = append(l, api.Field{Name: s[i], Value: s[i+1]})
	}
	return l
}

// lines ends each line as it stands on a connection.
func lines(s string) string { return strings.ReplaceAll(s, "|", "\r\n") }

// same holds nil and empty lists for one.
func same(a, b []api.Message) bool {
	if len(a) != len(b) {
		return false
	}
	for i := range a {
		x, y := a[i], b[i]
		for _, m := range []*api.Message{&x, &y} {
			if len(m.Head.Fields) == 0 {
				m.Head.Fields = nil
			}
			if len(m.Sizes) == 0 {
				m.Sizes = nil
			}
			if len(m.Trailers) == 0 {
				m.Trailers = nil
			}
		}
		if !reflect.DeepEqual(x, y) {
			return false
		}
	}
	return true
}

const (
	get  = "GET / HTTP/1.0||"
	post = "POST /p HTTP/1.1|Host: a|Content-Length: 3||abc"
	put  = "PUT /c HTTP/1.1|Host: a|Transfer-Encoding: chunked||2;x|ab|1|c|0|T: 1||"
)

var (
	getMessage  = api.Message{Head: api.Head{Method: "GET", Target: "/"}}
	postMessage = api.Message{Head: api.Head{Method: "POST", Target: "/p", Minor: 1, Fields: fields("Host", "a", "Content-Length", "3")}, Frame: api.Frame{Kind: api.Sized, Length: 3}, Body: "abc"}
	putMessage  = api.Message{Head: api.Head{Method: "PUT", Target: "/c", Minor: 1, Fields: fields("Host", "a", "Transfer-Encoding", "chunked")}, Frame: api.Frame{Kind: api.Chunked}, Body: "abc", Sizes: []int{2, 1}, Trailers: fields("T", "1")}
)

// P27.1, P27.2: requests.
func TestRequests(t *testing.T) {
	all := []api.Message{getMessage, postMessage, putMessage}
	for _, c := range []struct {
		s            string
		n            int
		open, closed api.Tail
	}{
		{"", 0, api.Tail{}, api.Tail{}}, {get, 1, api.Tail{}, api.Tail{}}, {get + post + put, 3, api.Tail{}, api.Tail{}}, {"||" + get + "|" + post + "||", 2, api.Tail{}, api.Tail{}},
		{get + "G", 1, api.Tail{Kind: api.Part, At: 18}, api.Tail{Kind: api.Bad, At: 18, Err: api.ErrCut}}, {get + "|G", 1, api.Tail{Kind: api.Part, At: 18}, api.Tail{Kind: api.Bad, At: 18, Err: api.ErrCut}}, {get + post[:len(post)-1], 1, api.Tail{Kind: api.Part, At: 18}, api.Tail{Kind: api.Bad, At: 18, Err: api.ErrCut}},
		{get + post + put[:len(put)-1], 2, api.Tail{Kind: api.Part, At: 69}, api.Tail{Kind: api.Bad, At: 69, Err: api.ErrCut}}, {get + "GET / HTTP/1.1||", 1, api.Tail{Kind: api.Bad, At: 18, Err: api.ErrHost}, api.Tail{Kind: api.Bad, At: 18, Err: api.ErrHost}}, {"G\n", 0, api.Tail{Kind: api.Bad, Err: api.ErrLine}, api.Tail{Kind: api.Bad, Err: api.ErrLine}},
		{"GET / HTTP/2.0||" + get, 0, api.Tail{Kind: api.Bad, Err: api.ErrVersion}, api.Tail{Kind: api.Bad, Err: api.ErrVersion}}, {"POST / HTTP/1.0|Content-Length: 1, 2||", 0, api.Tail{Kind: api.Bad, Err: api.ErrFrame}, api.Tail{Kind: api.Bad, Err: api.ErrFrame}}, {"PUT / HTTP/1.1|Host: a|Transfer-Encoding: chunked||x|", 0, api.Tail{Kind: api.Bad, Err: api.ErrForm}, api.Tail{Kind: api.Bad, Err: api.ErrForm}},
		{get + "\r", 1, api.Tail{Kind: api.Part, At: 18}, api.Tail{Kind: api.Bad, At: 18, Err: api.ErrCut}}, {get + "|\n", 1, api.Tail{Kind: api.Bad, At: 18, Err: api.ErrLine}, api.Tail{Kind: api.Bad, At: 18, Err: api.ErrLine}},
	} {
		for _, closed := range []bool{false, true} {
			want := c.open
			if closed {
				want = c.closed
			}
			if l, tail := Requests(lines(c.s), closed, lim); !same(l, all[:c.n]) || tail != want {
				t.Errorf("%q %v: %v %v", c.s, closed, l, tail)
			}
		}
	}
	if l, tail := Requests("", false, api.Limits{Head: -1}); len(l) != 0 || tail != (api.Tail{Kind: api.Bad, Err: api.ErrArg}) {
		t.Error(l, tail)
	}
	if l, tail := Requests(lines(get), true, api.Limits{Head: api.MaxHead + 1}); len(l) != 0 || tail != (api.Tail{Kind: api.Bad, Err: api.ErrArg}) {
		t.Error(l, tail)
	}
	if l, tail := Requests(lines(get), true, api.Limits{Head: 100, Line: -1}); len(l) != 0 || tail != (api.Tail{Kind: api.Bad, Err: api.ErrArg}) {
		t.Error(l, tail)
	}
	if l, tail := Requests(lines(get), true, api.Limits{Head: 17}); len(l) != 0 || tail != (api.Tail{Kind: api.Bad, Err: api.ErrLong}) {
		t.Error(l, tail)
	}
}

// short writes responses in few words: their status and frame, and their bodies.
func short(l []api.Message) string {
	s := ""
	for _, m := range l {
		s += string(rune('0'+m.Head.Status/100)) + string("nscx"[m.Frame.Kind]) + m.Body + " "
	}
	return s
}

// P27.1, P27.2: responses.
func TestResponses(t *testing.T) {
	const (
		sized    = "HTTP/1.1 200 OK|Content-Length: 2||ab"
		empty    = "HTTP/1.1 204 ||"
		goOn     = "HTTP/1.1 100 Continue||"
		closing  = "HTTP/1.1 200 OK||abc"
		switched = "HTTP/1.1 101 Switching||"
	)
	for _, c := range []struct {
		s, methods   string
		open, closed string
		part, cut    api.Tail
	}{
		{"", "", "", "", api.Tail{}, api.Tail{}}, {"", "GET", "", "", api.Tail{}, api.Tail{}}, {sized, "GET", "2sab ", "2sab ", api.Tail{}, api.Tail{}}, {sized + "x", "GET", "2sab ", "2sab ", api.Tail{Kind: api.Extra, At: 40}, api.Tail{Kind: api.Extra, At: 40}}, {"x", "", "", "", api.Tail{Kind: api.Extra}, api.Tail{Kind: api.Extra}},
		{"HTTP/1.1 199 x||" + sized, "GET", "1n 2sab ", "1n 2sab ", api.Tail{}, api.Tail{}}, {goOn + goOn + sized, "GET", "1n 1n 2sab ", "1n 1n 2sab ", api.Tail{}, api.Tail{}}, {empty + sized, "GET GET", "2n 2sab ", "2n 2sab ", api.Tail{}, api.Tail{}}, {empty + goOn, "GET GET", "2n 1n ", "2n 1n ", api.Tail{}, api.Tail{}}, {sized[:len(sized)-2] + empty, "HEAD PUT", "2n 2n ", "2n 2n ", api.Tail{}, api.Tail{}},
		{closing, "GET", "", "2xabc ", api.Tail{Kind: api.Part}, api.Tail{}}, {empty + closing, "A B C", "2n ", "2n 2xabc ", api.Tail{Kind: api.Part, At: 17}, api.Tail{}}, {sized[:len(sized)-1], "GET", "", "", api.Tail{Kind: api.Part}, api.Tail{Kind: api.Bad, Err: api.ErrCut}}, {"HTTP", "GET", "", "", api.Tail{Kind: api.Part}, api.Tail{Kind: api.Bad, Err: api.ErrCut}},
		{empty + switched, "A B", "2n ", "2n ", api.Tail{Kind: api.Bad, At: 17, Err: api.ErrStatus}, api.Tail{Kind: api.Bad, At: 17, Err: api.ErrStatus}}, {"HTTP/1.1 101 a|Content-Length: x||", "GET", "", "", api.Tail{Kind: api.Bad, Err: api.ErrFrame}, api.Tail{Kind: api.Bad, Err: api.ErrFrame}}, {"|" + sized, "GET", "", "", api.Tail{Kind: api.Bad, Err: api.ErrEnd}, api.Tail{Kind: api.Bad, Err: api.ErrEnd}},
		{"HTTP/1.0 200 OK|Transfer-Encoding: chunked||0||", "GET", "", "", api.Tail{Kind: api.Bad, Err: api.ErrFrame}, api.Tail{Kind: api.Bad, Err: api.ErrFrame}}, {"HTTP/1.1 200 OK|Transfer-Encoding: chunked||1|a|0||" + empty, "GET GET", "2ca 2n ", "2ca 2n ", api.Tail{}, api.Tail{}},
	} {
		for _, closed := range []bool{false, true} {
			want, tail := c.open, c.part
			if closed {
				want, tail = c.closed, c.cut
			}
			l, got := Responses(lines(c.s), closed, strings.Fields(c.methods), lim)
			if short(l) != want || got != tail {
				t.Errorf("%q %v: %s %v", c.s, closed, short(l), got)
			}
		}
	}
	bad := api.Limits{Head: -1}
	if l, tail := Responses("", false, []string{"GET"}, bad); len(l) != 0 || tail != (api.Tail{Kind: api.Bad, Err: api.ErrArg}) {
		t.Error(l, tail)
	}
	if l, tail := Responses("", false, nil, bad); len(l) != 0 || tail != (api.Tail{}) {
		t.Error(l, tail)
	}
}

// P27.3
func TestPrint(t *testing.T) {
	for s, m := range map[string]api.Message{get: getMessage, post: postMessage, strings.Replace(put, ";x", "", 1): putMessage} {
		if got, e := Print(m); got != lines(s) || e != api.OK {
			t.Errorf("%q: %q %d", s, got, e)
		}
	}
	for _, c := range []struct {
		m api.Message
		e api.Errno
	}{
		{api.Message{}, api.ErrForm}, {api.Message{Body: "x", Frame: api.Frame{Kind: 9}}, api.ErrForm}, {api.Message{Head: getMessage.Head, Body: "x"}, api.ErrFrame}, {api.Message{Head: getMessage.Head, Trailers: fields("A", "b")}, api.ErrFrame}, {api.Message{Head: putMessage.Head, Frame: putMessage.Frame, Trailers: fields("A b", "c")}, api.ErrValue},
	} {
		if got, e := Print(c.m); got != "" || e != c.e {
			t.Errorf("%v: %q %d", c.m, got, e)
		}
	}
}

// P27.4
func TestWhatFollows(t *testing.T) {
	r := rand.New(rand.NewSource(23))
	requests := []string{get, post, put, "||" + get, "GET / HTTP/1.1||", "P", "\r", "|"}
	responses := []string{"HTTP/1.1 200 OK|Content-Length: 1||a", "HTTP/1.1 204 ||", "HTTP/1.1 100 ||", "HTTP/1.1 200 OK|Transfer-Encoding: chunked||2|ab|0|A:||", "HTTP/1.1 200 ||xyz", "H"}
	for range 3000 {
		asks := r.Intn(2) == 0
		s := ""
		var methods []string
		for range r.Intn(5) {
			if asks {
				s += requests[r.Intn(len(requests))]
			} else {
				s += responses[r.Intn(len(responses))]
			}
			methods = append(methods, []string{"GET", "HEAD", "PUT"}[r.Intn(3)])
		}
		s = lines(s)
		read := func(s string, closed bool) ([]api.Message, api.Tail) {
			if asks {
				return Requests(s, closed, lim)
			}
			return Responses(s, closed, methods, lim)
		}
		whole, _ := read(s, false)
		cut := r.Intn(len(s) + 1)
		early, _ := read(s[:cut], false)
		if len(early) > len(whole) || !same(early, whole[:len(early)]) {
			t.Fatalf("%q %d", s, cut)
		}
		text := ""
		for i, m := range whole {
			p, e := Print(m)
			if e != api.OK {
				t.Fatalf("%v: %d", m, e)
			}
			if m.Frame.Kind != api.Close {
				text += p
			} else {
				whole = whole[:i]
				break
			}
		}
		if again, _ := read(text+"G", false); !same(again, whole) {
			t.Fatalf("%q: %q", s, text)
		}
	}
}
