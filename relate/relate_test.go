package relate

import (
	"math/rand"
	"slices"
	"strings"
	"testing"

	"abutment/api"
	"abutment/config"
	"abutment/framing"
	"abutment/head"
	"abutment/outreq"
	"abutment/outres"
	"abutment/plan"
	"abutment/refusal"
	"abutment/trailer"
)

func fields(s ...string) []api.Field {
	var l []api.Field
	for i := 0; i < len(s); i += 2 {
		l = append(l, api.Field{Name: s[i], Value: s[i+1]})
	}
	return l
}

// P47.1
func TestEnds(t *testing.T) {
	for _, c := range []struct{ l, want []api.Field }{
		{nil, nil}, {fields("A", "1", "host", "a", "content-length", "1", "transfer-encoding", "c", "connection", "x, host", "X", "2", "expect", "e", "via", "v", "cache-control", "c", "pragma", "p", "expires", "e", "date", "d", "last-modified", "l", "if-modified-since", "i", "if-unmodified-since", "u", "te", "t", "trailer", "t", "upgrade", "u", "keep-alive", "k", "proxy-connection", "p", "B", "3", "a", "4"), fields("A", "1", "B", "3", "a", "4")},
		{fields("Connection", "a b, x", "X", "1", "Age", "5", "Warning", "w"), fields("X", "1", "Age", "5", "Warning", "w")},
	} {
		if got := Ends(c.l); !slices.Equal(got, c.want) {
			t.Errorf("%q: %q", c.l, got)
		}
	}
}

// asked are a request in chunks, and what goes out of it, in settings that keep it.
func asked() (a, b api.Message, c api.Config) {
	c = config.Usual()
	c.Minor = 0
	a = api.Message{Head: api.Head{Method: "PUT", Target: "http://h/x", Minor: 1, Fields: fields("Host", "z", "Via", "1.0 q", "X", "1", "Transfer-Encoding", "chunked", "Y", "2")}, Frame: api.Frame{Kind: api.Chunked}, Body: "abc", Sizes: []int{3}, Trailers: fields("T", "1")}
	b = api.Message{Head: api.Head{Method: "PUT", Target: "/x", Fields: fields("Host", "h", "Via", "1.0 q", "X", "1", "Y", "2", "Via", "1.1 abutment", "Content-Length", "3", "Connection", "keep-alive", "T", "1")}, Frame: api.Frame{Kind: api.Sized, Length: 3}, Body: "abc"}
	return a, b, c
}

// P47.2: each of what must be the same, and in which order.
func TestRequest(t *testing.T) {
	a, b, c := asked()
	if e := Request(a, b, c); e != api.OK {
		t.Fatal(e)
	}
	set := func(name, value string) func(m *api.Message) {
		return func(m *api.Message) {
			m.Head.Fields = slices.Clone(m.Head.Fields)
			i := slices.IndexFunc(m.Head.Fields, func(f api.Field) bool { return f.Name == name })
			m.Head.Fields[i].Value = value
		}
	}
	drop := func(name string) func(m *api.Message) {
		return func(m *api.Message) {
			m.Head.Fields = slices.DeleteFunc(slices.Clone(m.Head.Fields), func(f api.Field) bool { return f.Name == name })
		}
	}
	add := func(name, value string) func(m *api.Message) {
		return func(m *api.Message) { m.Head.Fields = append(slices.Clone(m.Head.Fields), fields(name, value)...) }
	}
	steps := []struct {
		change func(m *api.Message)
		e      api.Errno
	}{
		{add("Z", "9"), api.ErrName}, {func(m *api.Message) { m.Body = "abd" }, api.ErrValue}, {func(m *api.Message) { m.Frame.Length = 4 }, api.ErrFrame}, {func(m *api.Message) { m.Frame = api.Frame{Kind: api.Chunked} }, api.ErrFrame}, {set("Via", "1.0 r"), api.ErrLoop}, {set("Host", "z"), api.ErrHost}, {func(m *api.Message) { m.Head.Minor = 1 }, api.ErrVersion}, {func(m *api.Message) { m.Head.Target = "/y" }, api.ErrTarget}, {func(m *api.Message) { m.Head.Method = "put" }, api.ErrMethod},
	}
	all := b
	for _, s := range steps { // one by one, and each one ahead of those behind it
		one := b
		s.change(&one)
		s.change(&all)
		if e := Request(a, one, c); e != s.e {
			t.Error(e, s.e)
		}
		if e := Request(a, all, c); e != s.e {
			t.Error("together", e, s.e)
		}
	}
	for _, s := range []struct {
		change func(m *api.Message)
		e      api.Errno
	}{
		{drop("Host"), api.ErrHost}, {add("Host", "h"), api.ErrHost}, {drop("Via"), api.ErrLoop}, {add("Via", "1.1 abutment"), api.ErrLoop}, {set("X", "3"), api.ErrName}, {drop("Y"), api.ErrName}, {drop("T"), api.OK}, {set("T", "9"), api.OK}, {add("t", "2"), api.OK}, {add("Date", "x"), api.OK}, {add("Pragma", "x"), api.OK}, {drop("Connection"), api.OK}, {func(m *api.Message) { m.Head.Status = 9 }, api.OK}, {func(m *api.Message) { slices.Reverse(m.Head.Fields) }, api.ErrLoop},
	} {
		one := b
		one.Head.Fields = slices.Clone(b.Head.Fields)
		s.change(&one)
		if e := Request(a, one, c); e != s.e {
			t.Error(e, s.e, one.Head.Fields)
		}
	}
	x := a
	x.Head.Target = "h:1"
	if e := Request(x, b, c); e != api.ErrTarget {
		t.Error(e)
	}
	x = a
	x.Head.Target, x.Head.Fields = "/x", fields("Via", "1.0 q", "X", "1", "Y", "2")
	y := b
	y.Head.Fields = fields("Via", "1.0 q", "X", "1", "Y", "2", "Via", "1.1 abutment", "Host", "")
	if e := Request(x, y, c); e != api.ErrHost {
		t.Error(e)
	}
	y.Head.Fields = y.Head.Fields[:4]
	if e := Request(x, y, c); e != api.OK {
		t.Error(e)
	}
	c.Authority = "h"
	if e := Request(x, b, c); e != api.OK {
		t.Error(e)
	}
	x.Head.Minor = 0
	if e := Request(x, b, c); e != api.ErrLoop {
		t.Error(e)
	}
}

// P47.3
func TestResponse(t *testing.T) {
	c := config.Usual()
	a := api.Message{Head: api.Head{Status: 200, Reason: "OK", Fields: fields("Via", "1.0 q", "X", "1")}, Frame: api.Frame{Kind: api.Close}, Body: "abc"}
	b := api.Message{Head: api.Head{Status: 200, Reason: "OK", Minor: 1, Fields: fields("Via", "1.0 q", "X", "1", "Via", "1.0 abutment", "Transfer-Encoding", "chunked")}, Frame: api.Frame{Kind: api.Chunked}, Body: "abc"}
	for _, minor := range []int{1, 7} {
		if e := Response(a, b, minor, c); e != api.OK {
			t.Error(e)
		}
	}
	for _, minor := range []int{0, -1} {
		if e := Response(a, b, minor, c); e != api.ErrVersion {
			t.Error(e)
		}
	}
	for i, want := range []api.Errno{api.ErrName, api.ErrValue, api.ErrFrame, api.ErrLoop, api.ErrVersion, api.ErrStatus, api.ErrStatus} {
		x := b
		x.Head.Fields = slices.Clone(b.Head.Fields)
		for j := i; j >= 0; j-- {
			switch j {
			case 0:
				x.Head.Fields[1].Value = "2"
			case 1:
				x.Body = "ab"
			case 2:
				x.Frame = api.Frame{Kind: api.Close}
			case 3:
				x.Head.Fields[2].Value = "1.1 abutment"
			case 4:
				x.Head.Minor = 0
			case 5:
				x.Head.Reason = "ok"
			case 6:
				x.Head.Status = 201
			}
		}
		if e := Response(a, x, 1, c); e != want {
			t.Error(i, e)
		}
	}
	a.Frame, a.Trailers = api.Frame{Kind: api.Chunked}, fields("x", "9")
	b.Frame, b.Head.Minor = api.Frame{Kind: api.Sized, Length: 3}, 0
	b.Head.Fields[1].Value = "2"
	if e := Response(a, b, 0, c); e != api.OK {
		t.Error(e)
	}
	c.Stream = 1
	if e := Response(a, b, 0, c); e != api.ErrFrame {
		t.Error(e)
	}
}

// P47.3
func TestRefusal(t *testing.T) {
	for _, now := range []int{0, 1 << 62} {
		for _, status := range []int{400, 599, 408, 413, 417, 431, 501, 502, 504, 505, 508} {
			for _, f := range []api.Frame{{}, {Kind: api.Sized}} {
				if !Refusal(api.Message{Head: refusal.Head(status, 1, now), Frame: f}) {
					t.Error(status, f)
				}
			}
		}
	}
	right := api.Message{Head: refusal.Head(400, 1, 0), Frame: api.Frame{Kind: api.Sized}}
	for i, change := range []func(m *api.Message){
		func(m *api.Message) { m.Head.Status = 399 }, func(m *api.Message) { m.Head.Status = 600 }, func(m *api.Message) { m.Head.Method = "GET" }, func(m *api.Message) { m.Body = "x" }, func(m *api.Message) { m.Frame.Length = 1 }, func(m *api.Message) { m.Frame.Kind = api.Close }, func(m *api.Message) { m.Frame.Kind = api.Chunked }, func(m *api.Message) { m.Head.Fields = m.Head.Fields[:2] }, func(m *api.Message) { m.Head.Fields = nil },
		func(m *api.Message) { m.Head.Fields = m.Head.Fields[1:2] }, func(m *api.Message) { m.Head.Fields[0].Name = "Dates" }, func(m *api.Message) { m.Head.Fields[1].Value = "00" }, func(m *api.Message) { m.Head.Fields[1].Name = "X" }, func(m *api.Message) { m.Head.Fields[2].Value = "keep-alive" }, func(m *api.Message) { m.Head.Fields[2].Name = "X" }, func(m *api.Message) { m.Head.Fields = append(m.Head.Fields, fields("Via", "1 a")...) },
		func(m *api.Message) { m.Head.Fields = append(fields("Date", "x"), m.Head.Fields...) }, func(m *api.Message) { slices.Reverse(m.Head.Fields) },
	} {
		m := right
		m.Head.Fields = slices.Clone(right.Head.Fields)
		change(&m)
		if Refusal(m) {
			t.Error(i)
		}
	}
	if Refusal(api.Message{}) {
		t.Error("zero")
	}
}

// P47.4
func TestWhatFollows(t *testing.T) {
	r := rand.New(rand.NewSource(28))
	some := []string{"Host: a", "Connection: x-a, close", "X-A: 1", "Y: 2", "T: 3", "Content-Length: 3", "Transfer-Encoding: chunked", "Via: 1.0 q", "Cache-Control: no-cache", "Pragma: no-cache", "Date: Sun Nov  6 08:49:37 1994", "Keep-Alive: 5"}
	taken := 0
	for range 20000 {
		asks := r.Intn(2) == 0
		kind, s := head.Asks, "PUT http://b/c HTTP/1."+string("01"[r.Intn(2)])
		if !asks {
			kind, s = head.Answers, "HTTP/1."+string("01"[r.Intn(2)])+" 200 OK"
		}
		for range r.Intn(6) {
			s += "|" + some[r.Intn(len(some))]
		}
		h, e := head.Parse(kind, api.Limits{Fields: 50}, strings.Split(s, "|")...)
		if e != api.OK {
			t.Fatal(s)
		}
		c := config.Usual()
		c.Minor, c.Stream, c.Reuse = r.Intn(2), r.Intn(2), r.Intn(2)
		minor := r.Intn(2)
		a := api.Message{Head: h}
		var out api.Out
		if asks {
			a.Frame, e = framing.Request(h)
			out = plan.Request(a.Frame, c)
		} else {
			a.Frame, e = framing.Response(h, "GET")
			out = plan.Response(a.Frame, minor, c)
		}
		if e != api.OK {
			continue
		}
		taken++
		if a.Frame.Kind != api.None {
			a.Body = "abc"
		}
		if a.Frame.Kind == api.Chunked {
			a.Trailers = fields("T", "4", "U", "5")
		}
		b := api.Message{Frame: out.Frame, Body: a.Body}
		if out.Keep {
			b.Frame.Length = len(a.Body)
		}
		related := func(b api.Message) api.Errno { return Response(a, b, minor, c) }
		if asks {
			b.Head = outreq.Request(h, b.Frame, false, c, 0)
			related = func(b api.Message) api.Errno { return Request(a, b, c) }
		} else {
			b.Head = outres.Response(h, b.Frame, minor, r.Intn(2) == 0, c, 0)
		}
		if out.Keep {
			b.Head.Fields = trailer.Merge(b.Head.Fields, a.Trailers)
		}
		other, another := b, b
		other.Body += "x"
		another.Head.Method, another.Head.Status = b.Head.Method+"X", b.Head.Status+1
		if related(b) != api.OK || related(other) != api.ErrValue || related(another) == api.OK {
			t.Fatalf("%q: %v %d %d %d", s, b, related(b), related(other), related(another))
		}
	}
	if taken < 1000 {
		t.Error(taken)
	}
}
