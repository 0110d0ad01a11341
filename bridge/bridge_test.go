package bridge

import (
	"math/rand"
	"slices"
	"strings"
	"testing"

	"abutment/api"
	"abutment/config"
	"abutment/link"
)

func lines(s string) string { return strings.ReplaceAll(s, "|", "\r\n") }

// peer is what a peer sends, and what came of it.
type peer struct {
	send  string
	ends  bool
	k     *link.Link
	ended bool
	got   string
	given int
}

// move lets octets come and go, at most n each way; it tells whether any did.
func (p *peer) move(n int) bool {
	if p.k == nil {
		return false
	}
	m := p.k.Give(p.send[:min(n, len(p.send))])
	p.send = p.send[m:]
	p.given += m
	moved := m > 0
	if p.send == "" && p.ends && !p.ended {
		p.k.End()
		p.ended, moved = true, true
	}
	gone := p.k.Take(n)
	p.got += gone
	return moved || gone != ""
}

// world is a bridge with its peers.
type world struct {
	t       *testing.T
	c       api.Config
	b       *Bridge
	client  *peer
	origins []*peer
	keys    []string
	opened  int
	steps   int
}

// begin makes a world; of texts that end with a $ the peer closes behind them.
func begin(t *testing.T, c api.Config, client string, origins ...string) *world {
	make := func(s string) *peer {
		text, ends := strings.CutSuffix(lines(s), "$")
		return &peer{send: text, ends: ends}
	}
	w := &world{t: t, c: c, client: make(client)}
	for _, s := range origins {
		w.origins = append(w.origins, make(s))
	}
	w.client.k = link.New(c.Queue)
	w.b = New(c, w.client.k)
	return w
}

// attach gives the bridge a link, if it wants one.
func (w *world) attach() bool {
	key, ok := w.b.Wants()
	if !ok {
		return false
	}
	if w.opened == len(w.origins) {
		w.origins = append(w.origins, &peer{})
	}
	w.keys = append(w.keys, key)
	w.origins[w.opened].k = link.New(w.c.Queue)
	if !w.b.Attach(w.origins[w.opened].k) || w.b.Attach(link.New(5)) {
		w.t.Error("attach")
	}
	w.opened++
	return true
}

func (w *world) step() bool {
	did := w.b.Step(0)
	if did {
		w.steps++
	}
	return did
}

// drain goes on till nothing more is to be done, each time with at most n() octets.
func (w *world) drain(n func() int) *world {
	for idle := 0; idle < 20; {
		did := w.attach()
		for _, p := range append([]*peer{w.client}, w.origins...) {
			did = p.move(n()) || did
		}
		did = w.step() || did
		if did {
			idle = 0
		} else {
			idle++
		}
	}
	came := w.client.given
	for _, p := range w.origins {
		came += p.given
	}
	if w.steps > 2*came+16 {
		w.t.Error("steps", w.steps, "of octets", came)
	}
	return w
}

func all() int { return 1 << 20 }

// text is what a peer got, in one line, with a $ if its connection ended.
func (p *peer) text() string {
	s := strings.ReplaceAll(p.got, "\r\n", "|")
	if p.k != nil && p.k.Over() {
		s += "$"
	}
	return s
}

// told is what went on all connections, in one form.
func (w *world) told() []string {
	l := []string{w.client.text()}
	for _, p := range w.origins[:w.opened] {
		l = append(l, p.text())
	}
	return l
}

const (
	date    = "Date: Thu, 01 Jan 1970 00:00:00 GMT|"
	refused = date + "Content-Length: 0|Connection: close||$"
)

// example is what peers send, and what goes on all connections.
type example struct {
	name    string
	set     func(c *api.Config)
	client  string
	origins []string
	want    []string
}

func old(c *api.Config)    { c.Minor = 0 }
func stream(c *api.Config) { c.Stream = 1 }
func single(c *api.Config) { c.Reuse = 0 }

var examples = []example{
	{"nothing", nil, "", nil, []string{""}},
	{"closed at once", nil, "$", nil, []string{"$"}},
	{"empty lines", nil, "||||$", nil, []string{"$"}},
	{"1: no Host", nil, "GET http://a.b/c HTTP/1.0||", nil, []string{"", "GET /c HTTP/1.1|Host: a.b|Via: 1.0 abutment||"}},
	{"2: chunks to HTTP/1.0", nil, "GET http://a.b/c HTTP/1.0||", []string{"HTTP/1.1 200 OK|Transfer-Encoding: chunked||2|ab|1|c|0|T: 1|Age: 2||"}, []string{"HTTP/1.0 200 OK|Via: 1.1 abutment|Content-Length: 3|Connection: close|T: 1||abc$", "GET /c HTTP/1.1|Host: a.b|Via: 1.0 abutment||$"}},
	{"trailers dropped", func(c *api.Config) { c.Trailers = 0 }, "GET http://a/ HTTP/1.0|Connection: keep-alive||", []string{"HTTP/1.1 200 OK|Transfer-Encoding: chunked||1|c|0|T: 1||"}, []string{"HTTP/1.0 200 OK|Via: 1.1 abutment|Content-Length: 1|Connection: keep-alive||c", "GET / HTTP/1.1|Host: a|Via: 1.0 abutment||"}},
	{"streamed to HTTP/1.0", stream, "GET http://a/ HTTP/1.0|Connection: keep-alive||", []string{"HTTP/1.1 200 OK|Transfer-Encoding: chunked||1|c|0|T: 1||"}, []string{"HTTP/1.0 200 OK|Via: 1.1 abutment|Connection: close||c$", "GET / HTTP/1.1|Host: a|Via: 1.0 abutment||$"}},
	{"3: no length", func(c *api.Config) { c.Chunk = 2 }, "GET / HTTP/1.1|Host: a||GET", []string{"HTTP/1.0 200 OK||abc$"}, []string{"HTTP/1.1 200 OK|Via: 1.0 abutment|Transfer-Encoding: chunked||2|ab|1|c|0||", "GET / HTTP/1.1|Host: a|Via: 1.1 abutment||$"}},
	{"4: a request in chunks to HTTP/1.0", old, "PUT / HTTP/1.1|Host: a|Transfer-Encoding: chunked||3|abc|0|T: x||", nil, []string{"", "PUT / HTTP/1.0|Host: a|Via: 1.1 abutment|Content-Length: 3|Connection: keep-alive|T: x||abc"}},
	{"4: one that is too long", func(c *api.Config) { c.Minor, c.Limits.Body = 0, 2 }, "PUT / HTTP/1.1|Host: a|Transfer-Encoding: chunked||3|abc|0||", nil, []string{"HTTP/1.1 413 Content Too Large|" + refused}},
	{"4: just as long as is set", func(c *api.Config) { c.Minor, c.Limits.Body = 0, 3 }, "PUT / HTTP/1.1|Host: a|Transfer-Encoding: chunked||3|abc|0||", nil, []string{"", "PUT / HTTP/1.0|Host: a|Via: 1.1 abutment|Content-Length: 3|Connection: keep-alive||abc"}},
	{"5: two lengths", nil, "PUT / HTTP/1.1|Host: a|Content-Length: 5|Transfer-Encoding: chunked||0||", nil, []string{"HTTP/1.1 400 Bad Request|" + refused}},
	{"6: Expect to HTTP/1.0", old, "PUT / HTTP/1.1|Host: a|Expect: 100-continue|Content-Length: 1||x", nil, []string{"HTTP/1.1 100 Continue||", "PUT / HTTP/1.0|Host: a|Via: 1.1 abutment|Content-Length: 1|Connection: keep-alive||x"}},
	{"6: and kept", old, "PUT / HTTP/1.1|Host: a|Expect: 100-continue|Transfer-Encoding: chunked||1|", nil, []string{"HTTP/1.1 100 Continue||"}},
	{"7: a loop", nil, "GET / HTTP/1.1|Host: a|Via: 1.0 b, 1.1 Abutment||", nil, []string{"HTTP/1.1 508 Loop Detected|" + refused}},
	{"8: dates", nil, "GET / HTTP/1.1|Host: a|Date: Sunday, 06-Nov-94 08:49:37 GMT||", nil, []string{"", "GET / HTTP/1.1|Host: a|Date: Sun, 06 Nov 1994 08:49:37 GMT|Via: 1.1 abutment||"}},
	{"9: cut within", nil, "GET / HTTP/1.1|Host: a||", []string{"HTTP/1.1 200 OK|Content-Length: 5||abc$"}, []string{"HTTP/1.1 200 OK|Via: 1.1 abutment|Content-Length: 5||abc$", "GET / HTTP/1.1|Host: a|Via: 1.1 abutment||$"}},
	{"cut within chunks", nil, "GET / HTTP/1.1|Host: a||", []string{"HTTP/1.1 200 OK|Transfer-Encoding: chunked||3|ab$"}, []string{"HTTP/1.1 200 OK|Via: 1.1 abutment|Transfer-Encoding: chunked||3|ab$", "GET / HTTP/1.1|Host: a|Via: 1.1 abutment||$"}},
	{"wrong within chunks", nil, "GET / HTTP/1.1|Host: a||", []string{"HTTP/1.1 200 OK|Transfer-Encoding: chunked||2|abX"}, []string{"HTTP/1.1 200 OK|Via: 1.1 abutment|Transfer-Encoding: chunked||2|ab|$", "GET / HTTP/1.1|Host: a|Via: 1.1 abutment||$"}},
	{"cut within what is kept", nil, "GET http://a/ HTTP/1.0||", []string{"HTTP/1.1 200 OK|Transfer-Encoding: chunked||3|ab$"}, []string{"HTTP/1.0 502 Bad Gateway|" + refused, "GET / HTTP/1.1|Host: a|Via: 1.0 abutment||$"}},
	{"too long to be kept", func(c *api.Config) { c.Limits.Body = 1 }, "GET http://a/ HTTP/1.0||", []string{"HTTP/1.1 200 OK|Transfer-Encoding: chunked||2|ab|0||"}, []string{"HTTP/1.0 502 Bad Gateway|" + refused, "GET / HTTP/1.1|Host: a|Via: 1.0 abutment||$"}},
	{"two requests, one connection", nil, "GET /1 HTTP/1.1|Host: a||PUT /2 HTTP/1.1|Host: A:80|Content-Length: 2||xy", []string{"HTTP/1.1 200 OK|Content-Length: 1||aHTTP/1.1 204 No||"}, []string{"HTTP/1.1 200 OK|Via: 1.1 abutment|Content-Length: 1||aHTTP/1.1 204 No|Via: 1.1 abutment||", "GET /1 HTTP/1.1|Host: a|Via: 1.1 abutment||PUT /2 HTTP/1.1|Host: A:80|Via: 1.1 abutment|Content-Length: 2||xy"}},
	{"two requests, two origins", nil, "GET /1 HTTP/1.1|Host: a||GET /2 HTTP/1.1|Host: b||$", []string{"HTTP/1.1 204 N||", "HTTP/1.1 204 N||"}, []string{"HTTP/1.1 204 N|Via: 1.1 abutment||HTTP/1.1 204 N|Via: 1.1 abutment||$", "GET /1 HTTP/1.1|Host: a|Via: 1.1 abutment||$", "GET /2 HTTP/1.1|Host: b|Via: 1.1 abutment||$"}},
	{"the origin doesn't go on", nil, "GET /1 HTTP/1.1|Host: a||GET /2 HTTP/1.1|Host: a||", []string{"HTTP/1.1 204 N|Connection: close||", "HTTP/1.1 204 N||"}, []string{"HTTP/1.1 204 N|Via: 1.1 abutment||HTTP/1.1 204 N|Via: 1.1 abutment||", "GET /1 HTTP/1.1|Host: a|Via: 1.1 abutment||$", "GET /2 HTTP/1.1|Host: a|Via: 1.1 abutment||"}},
	{"none is used again", single, "GET /1 HTTP/1.1|Host: a||GET /2 HTTP/1.1|Host: a||", []string{"HTTP/1.1 204 N||", ""}, []string{"HTTP/1.1 204 N|Via: 1.1 abutment||", "GET /1 HTTP/1.1|Host: a|Via: 1.1 abutment|Connection: close||$", "GET /2 HTTP/1.1|Host: a|Via: 1.1 abutment|Connection: close||"}},
	{"the client doesn't go on", nil, "GET / HTTP/1.1|Host: a|Connection: close||GET / HTTP/1.1|Host: a||", []string{"HTTP/1.1 204 N||"}, []string{"HTTP/1.1 204 N|Via: 1.1 abutment|Connection: close||$", "GET / HTTP/1.1|Host: a|Via: 1.1 abutment||$"}},
	{"HTTP/1.0 goes on", old, "GET / HTTP/1.0|Connection: keep-alive||GET / HTTP/1.0||", []string{"HTTP/1.0 200 OK|Connection: keep-alive|Content-Length: 0||HTTP/1.0 200 OK||x$"}, []string{"HTTP/1.0 200 OK|Via: 1.0 abutment|Content-Length: 0|Connection: keep-alive||HTTP/1.0 200 OK|Via: 1.0 abutment|Connection: close||x$", "GET / HTTP/1.0|Via: 1.0 abutment|Connection: keep-alive||GET / HTTP/1.0|Via: 1.0 abutment|Connection: keep-alive||$"}},
	{"HEAD", nil, "HEAD / HTTP/1.1|Host: a||", []string{"HTTP/1.1 200 OK|Content-Length: 5||"}, []string{"HTTP/1.1 200 OK|Via: 1.1 abutment|Content-Length: 5||", "HEAD / HTTP/1.1|Host: a|Via: 1.1 abutment||"}},
	{"GET behind HEAD", nil, "HEAD / HTTP/1.1|Host: a||GET / HTTP/1.1|Host: a||", []string{"HTTP/1.1 200 OK|Content-Length: 5||HTTP/1.1 100 C||HTTP/1.1 200 OK|Content-Length: 1||x"}, []string{"HTTP/1.1 200 OK|Via: 1.1 abutment|Content-Length: 5||HTTP/1.1 100 C|Via: 1.1 abutment||HTTP/1.1 200 OK|Via: 1.1 abutment|Content-Length: 1||x", "HEAD / HTTP/1.1|Host: a|Via: 1.1 abutment||GET / HTTP/1.1|Host: a|Via: 1.1 abutment||"}},
	{"an interim one to HEAD", nil, "HEAD / HTTP/1.1|Host: a||GET / HTTP/1.1|Host: a||", []string{"HTTP/1.1 199 C||HTTP/1.1 200 OK|Content-Length: 5||HTTP/1.1 204 N||"}, []string{"HTTP/1.1 199 C|Via: 1.1 abutment||HTTP/1.1 200 OK|Via: 1.1 abutment|Content-Length: 5||HTTP/1.1 204 N|Via: 1.1 abutment||", "HEAD / HTTP/1.1|Host: a|Via: 1.1 abutment||GET / HTTP/1.1|Host: a|Via: 1.1 abutment||"}},
	{"interim ones", nil, "GET / HTTP/1.1|Host: a||", []string{"HTTP/1.1 102 P|A: b||HTTP/1.1 100 C||HTTP/1.1 204 N||"}, []string{"HTTP/1.1 102 P|A: b|Via: 1.1 abutment||HTTP/1.1 100 C|Via: 1.1 abutment||HTTP/1.1 204 N|Via: 1.1 abutment||", "GET / HTTP/1.1|Host: a|Via: 1.1 abutment||"}},
	{"interim ones to HTTP/1.0", nil, "GET http://a/ HTTP/1.0||", []string{"HTTP/1.1 102 P||HTTP/1.1 204 N||"}, []string{"HTTP/1.0 204 N|Via: 1.1 abutment|Connection: close||$", "GET / HTTP/1.1|Host: a|Via: 1.0 abutment||$"}},
	{"as many interim ones as may be", func(c *api.Config) { c.Interim = 1 }, "GET / HTTP/1.1|Host: a||GET / HTTP/1.1|Host: a||", []string{"HTTP/1.1 102 P||HTTP/1.1 204 N||HTTP/1.1 103 P||HTTP/1.1 102 P||"}, []string{"HTTP/1.1 102 P|Via: 1.1 abutment||HTTP/1.1 204 N|Via: 1.1 abutment||HTTP/1.1 103 P|Via: 1.1 abutment||HTTP/1.1 502 Bad Gateway|" + refused, "GET / HTTP/1.1|Host: a|Via: 1.1 abutment||GET / HTTP/1.1|Host: a|Via: 1.1 abutment||$"}},
	{"no interim one", func(c *api.Config) { c.Interim = 0 }, "GET http://a/ HTTP/1.0||", []string{"HTTP/1.1 100 P||"}, []string{"HTTP/1.0 502 Bad Gateway|" + refused, "GET / HTTP/1.1|Host: a|Via: 1.0 abutment||$"}},
	{"awaited", nil, "PUT / HTTP/1.1|Host: a|Expect: 100-continue|Content-Length: 2||xy", []string{"HTTP/1.1 102 P||HTTP/1.1 100 C||HTTP/1.1 200 OK|Content-Length: 0||"}, []string{"HTTP/1.1 102 P|Via: 1.1 abutment||HTTP/1.1 100 C|Via: 1.1 abutment||HTTP/1.1 200 OK|Via: 1.1 abutment|Content-Length: 0||", "PUT / HTTP/1.1|Host: a|Expect: 100-continue|Via: 1.1 abutment|Content-Length: 2||xy"}},
	{"awaited in vain", nil, "PUT / HTTP/1.1|Host: a|Expect: 100-continue|Content-Length: 2||xy", []string{"HTTP/1.1 102 P||"}, []string{"HTTP/1.1 102 P|Via: 1.1 abutment||", "PUT / HTTP/1.1|Host: a|Expect: 100-continue|Via: 1.1 abutment|Content-Length: 2||"}},
	{"awaited, but answered", nil, "PUT / HTTP/1.1|Host: a|Expect: 100-continue|Content-Length: 2||xy", []string{"HTTP/1.1 403 No|Content-Length: 1||z"}, []string{"HTTP/1.1 403 No|Via: 1.1 abutment|Content-Length: 1|Connection: close||z$", "PUT / HTTP/1.1|Host: a|Expect: 100-continue|Via: 1.1 abutment|Content-Length: 2||$"}},
	{"nothing to wait for", nil, "PUT / HTTP/1.1|Host: a|Expect: 100-continue|Content-Length: 0||", nil, []string{"", "PUT / HTTP/1.1|Host: a|Via: 1.1 abutment|Content-Length: 0||"}},
	{"switching", nil, "GET / HTTP/1.1|Host: a|Upgrade: x|Connection: upgrade||", []string{"HTTP/1.1 101 S|Upgrade: x||"}, []string{"HTTP/1.1 502 Bad Gateway|" + refused, "GET / HTTP/1.1|Host: a|Via: 1.1 abutment||$"}},
	{"no answer", nil, "GET / HTTP/1.1|Host: a||", []string{"$"}, []string{"HTTP/1.1 502 Bad Gateway|" + refused, "GET / HTTP/1.1|Host: a|Via: 1.1 abutment||$"}},
	{"half an answer", nil, "GET / HTTP/1.1|Host: a||", []string{"HTTP/1.1 2$"}, []string{"HTTP/1.1 502 Bad Gateway|" + refused, "GET / HTTP/1.1|Host: a|Via: 1.1 abutment||$"}},
	{"no HTTP", nil, "GET / HTTP/1.1|Host: a||", []string{"SSH-2.0||"}, []string{"HTTP/1.1 502 Bad Gateway|" + refused, "GET / HTTP/1.1|Host: a|Via: 1.1 abutment||$"}},
	{"closed behind a request", nil, "GET / HTTP/1.1|Host: a||$", []string{"HTTP/1.1 204 N||"}, []string{"HTTP/1.1 204 N|Via: 1.1 abutment||$", "GET / HTTP/1.1|Host: a|Via: 1.1 abutment||$"}},
	{"closed within a head", nil, "GET / HTTP/1.0|$", nil, []string{"HTTP/1.1 400 Bad Request|" + refused}},
	{"closed within a body", nil, "PUT / HTTP/1.1|Host: a|Content-Length: 3||ab$", nil, []string{"HTTP/1.1 400 Bad Request|" + refused, "PUT / HTTP/1.1|Host: a|Via: 1.1 abutment|Content-Length: 3||ab$"}},
	{"closed within a body of HTTP/1.0", nil, "PUT http://a/ HTTP/1.0|Content-Length: 3||ab$", nil, []string{"HTTP/1.0 400 Bad Request|" + refused, "PUT / HTTP/1.1|Host: a|Via: 1.0 abutment|Content-Length: 3||ab$"}},
	{"closed within what is kept", old, "PUT / HTTP/1.1|Host: a|Transfer-Encoding: chunked||3|ab$", nil, []string{"HTTP/1.1 400 Bad Request|" + refused}},
	{"wrong chunks", nil, "PUT / HTTP/1.1|Host: a|Transfer-Encoding: chunked||1|a|x|", nil, []string{"HTTP/1.1 400 Bad Request|" + refused, "PUT / HTTP/1.1|Host: a|Via: 1.1 abutment|Transfer-Encoding: chunked||1|a|$"}},
	{"chunks as they come", nil, "PUT / HTTP/1.1|Host: a|Transfer-Encoding: chunked||1;x=y|a|02|bc|0|T: 1|Host: b||", nil, []string{"", "PUT / HTTP/1.1|Host: a|Via: 1.1 abutment|Transfer-Encoding: chunked||1|a|2|bc|0|T: 1||"}},
	{"a wrong request behind another one", nil, "GET / HTTP/1.0|Connection: keep-alive|Host: a||GET / HTTP/1.1||GET / HTTP/1.1|Host: a||", []string{"HTTP/1.1 204 N||HTTP/1.1 204 N||"}, []string{"HTTP/1.0 204 N|Via: 1.1 abutment|Connection: keep-alive||HTTP/1.1 400 Bad Request|" + refused, "GET / HTTP/1.1|Host: a|Via: 1.0 abutment||$"}},
	{"too many fields", func(c *api.Config) { c.Limits.Fields = 1 }, "GET / HTTP/1.1|Host: a|B: c||", nil, []string{"HTTP/1.1 431 Request Header Fields Too Large|" + refused}},
	{"too long a head", func(c *api.Config) { c.Limits.Head = 16 }, "GET /abc HTTP/1.1|Host: a||", nil, []string{"HTTP/1.1 431 Request Header Fields Too Large|" + refused}},
	{"CONNECT", nil, "CONNECT a:1 HTTP/1.1|Host: a||", nil, []string{"HTTP/1.1 501 Not Implemented|" + refused}},
	{"codings", nil, "PUT / HTTP/1.1|Host: a|Transfer-Encoding: gzip, chunked||", nil, []string{"HTTP/1.1 501 Not Implemented|" + refused}},
	{"versions", nil, "GET / HTTP/2.0|Host: a||", nil, []string{"HTTP/1.1 505 HTTP Version Not Supported|" + refused}},
	{"expectations", nil, "GET / HTTP/1.1|Host: a|Expect: x||", nil, []string{"HTTP/1.1 417 Expectation Failed|" + refused}},
	{"a refusal to HTTP/1.0", nil, "GET x HTTP/1.0||", nil, []string{"HTTP/1.0 400 Bad Request|" + refused}},
	{"an authority", func(c *api.Config) { c.Authority = "z:5" }, "GET / HTTP/1.0||", nil, []string{"", "GET / HTTP/1.1|Host: z:5|Via: 1.0 abutment||"}},
	{"a link of one octet", func(c *api.Config) { c.Queue = 1 }, "GET / HTTP/1.1|Host: a||", []string{"HTTP/1.1 204 N||"}, []string{"HTTP/1.1 204 N|Via: 1.1 abutment||", "GET / HTTP/1.1|Host: a|Via: 1.1 abutment||"}},
	{"more than was asked for", nil, "GET / HTTP/1.1|Host: a||", []string{"HTTP/1.1 204 N||HTTP/1.1 200 OK||$"}, []string{"HTTP/1.1 204 N|Via: 1.1 abutment||", "GET / HTTP/1.1|Host: a|Via: 1.1 abutment||"}},
}

func set(x example) api.Config {
	c := config.Usual()
	if x.set != nil {
		x.set(&c)
	}
	return c
}

// P39.1 to P39.5, with all octets at once.
func TestExamples(t *testing.T) {
	for _, x := range examples {
		w := begin(t, set(x), x.client, x.origins...).drain(all)
		if got := w.told(); !slices.Equal(got, x.want) {
			t.Errorf("%s:\n%q\n%q", x.name, got, x.want)
		}
	}
}

// P39.7, P39.8: however octets come and go, the same went on each connection.
func TestHowOctetsCome(t *testing.T) {
	r := rand.New(rand.NewSource(29))
	for _, x := range examples {
		for i := range 40 {
			most := 1 + i/3
			w := begin(t, set(x), x.client, x.origins...).drain(func() int { return r.Intn(most + 1) })
			if got := w.told(); !slices.Equal(got, x.want) {
				t.Fatalf("%s:\n%q\n%q", x.name, got, x.want)
			}
		}
	}
}

// P39.1
func TestNew(t *testing.T) {
	k := link.New(5)
	bad := config.Usual()
	bad.Chunk = 0
	if New(config.Usual(), nil) != nil || New(bad, k) != nil || New(api.Config{}, k) != nil {
		t.Error("new")
	}
	b := New(config.Usual(), k)
	if b == nil || b.Phase() != Asking || b.Step(0) || b.Attach(k) || b.Release() != nil {
		t.Error("new")
	}
	if o, key := b.Origin(); o != nil || key != "" {
		t.Error(key)
	}
	if Asking != 1 || Holding != 2 || Dialing != 3 || Awaiting != 4 || Sending != 5 || Answering != 6 || Keeping != 7 || Passing != 8 || Closed != 9 {
		t.Error("phases")
	}
}

// P39.6: a nil one.
func TestNil(t *testing.T) {
	var b *Bridge
	key, wants := b.Wants()
	o, place := b.Origin()
	if b.Phase() != Closed || b.Step(0) || b.Late(0) || key != "" || wants || b.Attach(link.New(5)) || o != nil || place != "" || b.Release() != nil {
		t.Error("nil")
	}
}

// stops are what peers send till a phase is reached, and what is told the client when nothing comes in time.
var stops = []struct {
	phase   int
	set     func(c *api.Config)
	client  string
	origins []string
	late    string
}{
	{Asking, nil, "", nil, "$"}, {Asking, nil, "||", nil, "$"}, {Asking, nil, "GET", nil, "HTTP/1.1 408 Request Timeout|" + refused}, {Asking, nil, "GET / HTTP/1.0|Host: a|Connection: keep-alive||GET", []string{"HTTP/1.1 204 N||"}, "HTTP/1.0 204 N|Via: 1.1 abutment|Connection: keep-alive||HTTP/1.1 408 Request Timeout|" + refused},
	{Holding, old, "PUT / HTTP/1.1|Host: a|Transfer-Encoding: chunked||", nil, "HTTP/1.1 408 Request Timeout|" + refused}, {Sending, nil, "PUT http://a/ HTTP/1.0|Content-Length: 1||", nil, "HTTP/1.0 408 Request Timeout|" + refused}, {Awaiting, nil, "PUT / HTTP/1.1|Host: a|Content-Length: 1|Expect: 100-continue||x", nil, "HTTP/1.1 504 Gateway Timeout|" + refused},
	{Answering, nil, "GET / HTTP/1.1|Host: a||", []string{"HTTP"}, "HTTP/1.1 504 Gateway Timeout|" + refused}, {Keeping, nil, "GET http://a/ HTTP/1.0||", []string{"HTTP/1.1 200 OK|Transfer-Encoding: chunked||"}, "HTTP/1.0 504 Gateway Timeout|" + refused}, {Passing, nil, "GET / HTTP/1.1|Host: a||", []string{"HTTP/1.1 200 OK|Content-Length: 5||ab"}, "HTTP/1.1 200 OK|Via: 1.1 abutment|Content-Length: 5||ab$"},
}

// P39.6
func TestLate(t *testing.T) {
	for _, x := range stops {
		w := begin(t, set(example{set: x.set}), x.client, x.origins...).drain(all)
		if w.b.Phase() != x.phase {
			t.Error(x.client, w.b.Phase(), x.phase)
		}
		if !w.b.Late(0) || w.b.Phase() != Closed || w.b.Late(0) || w.b.Step(0) {
			t.Error(x.client, "late")
		}
		if o, key := w.b.Origin(); o != nil || key != "" {
			t.Error(x.client, "origin")
		}
		w.drain(all)
		if got := w.told(); got[0] != x.late || len(got) > 1 && !strings.HasSuffix(got[1], "$") {
			t.Errorf("%s: %q", x.client, got)
		}
	}
	c := begin(t, config.Usual(), "GET / HTTP/1.1|Host: a||")
	c.client.move(1000)
	for c.b.Step(0) {
	}
	if c.b.Phase() != Dialing || !c.b.Late(0) || c.drainClient() != "HTTP/1.1 504 Gateway Timeout|"+refused {
		t.Error(c.client.text())
	}
}

// drainClient lets all go to the client, and tells it.
func (w *world) drainClient() string {
	w.client.move(1 << 20)
	return w.client.text()
}

// P39.3, P39.6: links wanted, attached, told, released.
func TestLinks(t *testing.T) {
	w := begin(t, config.Usual(), "GET / HTTP/1.1|Host: A:81||", "HTTP/1.1 204 N||")
	w.client.move(1000)
	for w.b.Step(0) {
	}
	if key, ok := w.b.Wants(); key != "a:81" || !ok || w.b.Attach(nil) || w.b.Release() != nil {
		t.Error(key)
	}
	w.drain(all)
	k := w.origins[0].k
	if o, key := w.b.Origin(); o != k || key != "a:81" || w.b.Phase() != Asking {
		t.Error(key)
	}
	w.client.k.Give("\r\nG")
	w.b.Step(0)
	if w.b.Release() != nil {
		t.Error("released within a request")
	}
	v := begin(t, config.Usual(), "GET / HTTP/1.1|Host: a||||", "HTTP/1.1 204 N||").drain(all)
	k = v.origins[0].k
	if got := v.b.Release(); got != k || !k.Live() || v.b.Release() != nil {
		t.Error("release")
	}
	if o, key := v.b.Origin(); o != nil || key != "" {
		t.Error(key)
	}
	v.client.send = lines("GET /2 HTTP/1.1|Host: a||")
	v.drain(all)
	if got := v.told(); len(got) != 3 || got[2] != "GET /2 HTTP/1.1|Host: a|Via: 1.1 abutment||" {
		t.Errorf("%q", got)
	}
}

// P39.6: nothing is done while more waits than there is room for.
func TestFree(t *testing.T) {
	c := config.Usual()
	c.Queue = 30
	w := begin(t, c, "GET / HTTP/1.1|Host: a||", "HTTP/1.1 204 N||")
	for {
		w.attach()
		moved := w.client.move(1000)
		if !w.b.Step(0) && !moved {
			break
		}
	}
	k := w.origins[0].k
	if k.Free() || w.b.Step(0) || w.b.Phase() != Sending {
		t.Error("not free", w.b.Phase())
	}
	for k.Take(1) != "" && !k.Free() {
	}
	if !w.b.Step(0) || w.b.Phase() != Answering {
		t.Error("free", w.b.Phase())
	}
}

// The times of heads are those of the steps that write them.
func TestNow(t *testing.T) {
	k := link.New(1000)
	b := New(config.Usual(), k)
	k.Give("GET / HTTP/1.1\r\n\r\n")
	for b.Step(784111777) {
	}
	if s := k.Take(1000); !strings.Contains(s, "Date: Sun, 06 Nov 1994 08:49:37 GMT") {
		t.Errorf("%q", s)
	}
}

// P39.6: what a step tells.
func TestStep(t *testing.T) {
	k, o := link.New(1000), link.New(1000)
	b := New(config.Usual(), k)
	told := func(phase int) {
		t.Helper()
		if !b.Step(0) || b.Step(0) || b.Phase() != phase {
			t.Error(b.Phase(), phase)
		}
	}
	k.Give("G")
	told(Asking)
	k.Give(lines("ET / HTTP/1.1|Host: a||"))
	told(Dialing)
	b.Attach(o)
	if !b.Step(0) || b.Phase() != Sending { // the head is written
		t.Error(b.Phase())
	}
	told(Answering)
	o.End()
	told(Closed)
	n := link.New(1000)
	b = New(config.Usual(), n)
	n.End()
	told(Closed)
}
