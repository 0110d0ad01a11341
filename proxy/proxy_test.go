package proxy

import (
	"math"
	"math/rand"
	"slices"
	"strings"
	"testing"

	"abutment/api"
	"abutment/bridge"
	"abutment/config"
	"abutment/link"
	"abutment/wire"
)

func lines(s string) string { return strings.ReplaceAll(s, "|", "\r\n") }

func conn(client, origin int) api.Conn { return api.Conn{Client: client, Origin: origin} }

// usual are the usual settings, changed.
func usual(change func(c *api.Config)) api.Config {
	c := config.Usual()
	if change != nil {
		change(&c)
	}
	return c
}

func sent(t *testing.T, p *Proxy, k api.Conn, want string, closed bool) {
	t.Helper()
	if got := p.Sent(k); got != (api.Sent{Conn: k, Text: lines(want), Closed: closed}) {
		t.Errorf("%v: %q %v", k, got.Text, got.Closed)
	}
}

// ask lets a client ask an origin for something, and all be done.
func ask(p *Proxy, client int, host string) {
	p.Send(conn(client, 0), lines("GET / HTTP/1.1|Host: "+host+"||"))
	p.Drain(1000)
}

const (
	asked    = "GET / HTTP/1.1|Host: a|Via: 1.1 abutment||"
	answer   = "HTTP/1.1 204 N||"
	answered = "HTTP/1.1 204 N|Via: 1.1 abutment||"
)

// P43.1
func TestNew(t *testing.T) {
	if New(api.Config{}, 0) != nil || New(config.Usual(), 1<<48+1) != nil || New(config.Usual(), math.MinInt) != nil {
		t.Error("new")
	}
	p := New(config.Usual(), -5)
	if p.Now() != -5 || len(p.Conns()) != 0 || p.Live() != 0 || p.Phase(0) != 0 || p.Drain(5) != 0 || p.Serve(0) || p.Serve(-1) {
		t.Error("nobody")
	}
	for _, k := range []api.Conn{conn(-1, 0), conn(api.MaxClients, 0), conn(0, -1), conn(math.MaxInt, math.MinInt)} {
		p.End(k)
		if p.Send(k, "x") != 0 || p.Read(k, 1) != 0 || p.Grant(k, 1) != 0 || p.Sent(k) != (api.Sent{Conn: k}) || p.Phase(k.Client) != 0 && k.Client != 0 {
			t.Error(k)
		}
	}
	var n *Proxy
	n.End(conn(0, 0))
	if n.Open(0) != api.ErrArg || n.Send(conn(0, 0), "x") != 0 || n.Read(conn(0, 0), 1) != 0 || n.Grant(conn(0, 0), 1) != 0 || n.Serve(0) || len(n.Tick(5)) != 0 || n.Drain(5) != 0 || n.Sent(conn(0, 0)) != (api.Sent{}) || len(n.Conns()) != 0 || n.Phase(0) != 0 || n.Live() != 0 || n.Now() != 0 {
		t.Error("nil")
	}
}

// P43.2
func TestOpen(t *testing.T) {
	p := New(usual(func(c *api.Config) { c.Clients = 2 }), 0)
	for _, x := range []struct {
		client int
		e      api.Errno
	}{{-1, api.ErrArg}, {16, api.ErrArg}, {15, api.OK}, {15, api.ErrState}, {3, api.OK}, {4, api.ErrFull}, {3, api.ErrState}} {
		if e := p.Open(x.client); e != x.e {
			t.Error(x, e)
		}
	}
	p.Send(conn(3, 0), "x\n")
	p.Read(conn(3, 0), 9)
	for p.Serve(3) {
	}
	if p.Phase(3) != bridge.Closed || p.Open(4) != api.ErrFull { // what waits still goes to it
		t.Error("too early")
	}
	p.Grant(conn(3, 0), api.MaxBody)
	if p.Open(3) != api.ErrState || p.Open(4) != api.OK || p.Open(5) != api.ErrFull {
		t.Error("freed")
	}
	if got := p.Conns(); !slices.Equal(got, []api.Conn{conn(3, 0), conn(4, 0), conn(15, 0)}) {
		t.Error(got)
	}
}

// P43.2, P43.3, P43.5: one step behind the other.
func TestSteps(t *testing.T) {
	p := New(config.Usual(), 0)
	k, o := conn(0, 0), conn(0, 1)
	if p.Send(o, lines(answer)) != 18 || p.Send(k, "GET / HT") != 8 || p.Read(k, 5) != 0 || p.Grant(k, 5) != 0 || p.Open(0) != api.OK {
		t.Error("ahead of opening")
	}
	p.Send(k, lines("TP/1.1|Host: a||"))
	if p.Serve(0) || p.Read(k, 5) != 5 || p.Read(k, -1) != 0 || !p.Serve(0) || p.Serve(0) || p.Phase(0) != bridge.Asking {
		t.Error("head")
	}
	p.Read(k, 100)
	if !p.Serve(0) || p.Phase(0) != bridge.Dialing || p.Live() != 0 || p.Read(o, 100) != 0 || !p.Serve(0) || p.Live() != 1 {
		t.Error("dialing")
	}
	for p.Serve(0) {
	}
	if got := p.Conns(); p.Phase(0) != bridge.Answering || !slices.Equal(got, []api.Conn{k, o}) || p.Grant(o, 3) != 3 {
		t.Error(got)
	}
	sent(t, p, o, "GET", false)
	p.End(k)
	p.Drain(100)
	sent(t, p, o, asked, true)
	sent(t, p, k, answered, true)
	if p.Live() != 0 || p.Phase(0) != bridge.Closed || p.Serve(0) {
		t.Error("closed")
	}
	q := New(config.Usual(), 0)
	q.Open(0)
	q.End(k)
	q.Send(k, "x")
	q.Drain(5)
	sent(t, q, k, "", true)
}

// P43.3: what is shared: the one that came last is used first, the one that came first is shut first; names stay.
func TestShare(t *testing.T) {
	p := New(usual(func(c *api.Config) { c.Share, c.Origins = 1, 2 }), 0)
	for client := range 4 {
		p.Open(client)
	}
	p.Send(conn(0, 1), lines(answer))
	ask(p, 0, "a")
	sent(t, p, conn(0, 0), answered, false)
	p.Send(conn(0, 1), lines(answer))
	ask(p, 1, "A:80")
	sent(t, p, conn(0, 1), asked+strings.Replace(asked, "Host: a", "Host: A:80", 1), false)
	sent(t, p, conn(1, 0), answered, false)
	if p.Live() != 1 || len(p.Conns()) != 5 {
		t.Error(p.Conns())
	}
	p.Send(conn(2, 1), lines(answer))
	ask(p, 2, "b")
	if p.Live() != 2 {
		t.Error(p.Live())
	}
	p.Send(conn(3, 1), lines(answer))
	ask(p, 3, "c") // that to a came first
	if !p.Sent(conn(0, 1)).Closed || p.Sent(conn(2, 1)).Closed || p.Live() != 2 {
		t.Error("shut", p.Live())
	}
	ask(p, 0, "b") // and now that to b is in use, so that one to c goes
	ask(p, 1, "d")
	if p.Sent(conn(2, 1)).Closed || !p.Sent(conn(3, 1)).Closed || p.Live() != 2 || p.Phase(0) != bridge.Answering {
		t.Error("shut", p.Live())
	}
	p.Send(conn(2, 0), lines("GET / HTTP/1.1|Host: e||"))
	p.Drain(100)
	if p.Phase(2) != bridge.Dialing || p.Serve(2) || p.Live() != 2 {
		t.Error("none is idle")
	}
	p.Send(conn(2, 1), lines(answer))
	p.Drain(100)
	if p.Phase(2) != bridge.Answering || p.Live() != 2 {
		t.Error("one is idle", p.Phase(2))
	}
	last := New(usual(func(c *api.Config) { c.Share = 1 }), 0)
	for client := range 3 {
		last.Open(client)
		ask(last, client, "a")
	}
	for _, client := range []int{0, 2, 1} {
		last.Send(conn(client, 1), lines(answer))
		last.Drain(100)
	}
	ask(last, 0, "a")
	sent(t, last, conn(1, 1), asked+asked, false)
	sent(t, last, conn(0, 1), asked, false)
}

// P43.3, P43.7: nothing is shared: the link of the least client but this one that has one to spare is shut.
func TestSpare(t *testing.T) {
	p := New(usual(func(c *api.Config) { c.Origins = 2 }), 0)
	for client := range 4 {
		p.Open(client)
	}
	for _, client := range []int{2, 1} {
		p.Send(conn(client, 1), lines(answer))
		ask(p, client, "a")
	}
	ask(p, 0, "a")
	if p.Sent(conn(2, 1)).Closed || !p.Sent(conn(1, 1)).Closed || p.Live() != 2 {
		t.Error("least")
	}
	p.Send(conn(2, 2), lines(answer))
	ask(p, 2, "b") // its own isn't spared, it is dropped for another one
	if !p.Sent(conn(2, 1)).Closed || p.Live() != 2 {
		t.Error("own")
	}
	p.Send(conn(2, 0), "GET")
	ask(p, 3, "c")
	if p.Phase(3) != bridge.Dialing || p.Live() != 2 || p.Serve(3) {
		t.Error("a request has begun")
	}
	p.Send(conn(0, 1), lines(answer))
	p.Read(conn(0, 1), 100)
	for p.Serve(0) {
	}
	if !p.Serve(3) || p.Sent(conn(3, 0)).Closed || p.Live() != 2 {
		t.Error("not told")
	}
	p.Drain(100)
	if p.Phase(3) != bridge.Answering || !p.Sent(conn(0, 1)).Closed || p.Live() != 2 {
		t.Error("one to spare")
	}
	if p.Phase(15) != 0 || p.Phase(-1) != 0 {
		t.Error("phases")
	}
}

// P43.2, P43.3, P43.4: who is due when.
func TestTick(t *testing.T) {
	p := New(usual(func(c *api.Config) { c.Idle = 10 }), 100)
	for client := range 3 {
		p.Open(2 - client)
		p.Tick(1)
	}
	if p.Now() != 103 || len(p.Tick(-5)) != 0 || p.Now() != 103 {
		t.Error(p.Now())
	}
	p.Send(conn(1, 0), "GET")
	p.Drain(10)
	if got := p.Tick(6); len(got) != 0 {
		t.Error(got)
	}
	if got := p.Tick(4); !slices.Equal(got, []int{2, 0, 1}) {
		t.Error(got)
	}
	if p.Phase(0) != bridge.Closed || len(p.Tick(math.MaxInt)) != 0 {
		t.Error("again")
	}
	p.Drain(10)
	sent(t, p, conn(0, 0), "", true)
	sent(t, p, conn(1, 0), "HTTP/1.1 408 Request Timeout|Date: Thu, 01 Jan 1970 00:01:53 GMT|Content-Length: 0|Connection: close||", true)
	q := New(usual(func(c *api.Config) { c.Idle = 10 }), 0)
	q.Open(0)
	q.Tick(9)
	q.Send(conn(0, 0), "x\n")
	q.Drain(10)
	if got := q.Tick(100); len(got) != 0 {
		t.Error("closed ahead", got)
	}
	n := New(config.Usual(), 0)
	n.Open(0)
	if got := n.Tick(math.MaxInt); len(got) != 0 || n.Now() != api.MaxTicks {
		t.Error(got)
	}
}

// P43.4
func TestDrain(t *testing.T) {
	p := New(usual(func(c *api.Config) { c.Queue = 4 }), 0)
	p.Open(0)
	p.Send(conn(0, 0), lines("GET / HTTP/1.1|Host: a||"))
	if p.Drain(0) != 0 || p.Drain(-1) != 0 || p.Sent(conn(0, 0)).Text != "" || p.Phase(0) != bridge.Asking {
		t.Error("none")
	}
	if p.Drain(2) != 2 || p.Phase(0) != bridge.Asking {
		t.Error("two")
	}
	for _, k := range []api.Conn{conn(0, 0), conn(0, 1)} { // one octet is enough, and nothing is served
		q := New(config.Usual(), 0)
		q.Open(0)
		q.Send(conn(0, 1), lines(answer))
		ask(q, 0, "a")
		if k.Origin == 1 {
			q.Send(k, "x")
		} else {
			q.Send(k, "y\n")
			q.Read(k, 9)
			for q.Serve(0) {
			}
			q.Grant(k, 102)
		}
		if n := q.Drain(9); n != 1 {
			t.Error(k, n, len(q.Sent(k).Text))
		}
	}
	if n := p.Drain(1000); n < 5 || n > 20 || p.Drain(1000) != 0 || p.Phase(0) != bridge.Answering {
		t.Error(n)
	}
}

// alone is what goes on a client's connections where its bridge is driven by itself, all octets at once.
func alone(c api.Config, texts []string, ends []bool) []api.Sent {
	var peers []*wire.Wire
	for i, s := range texts {
		w := wire.New()
		w.Send(s)
		if ends[i] {
			w.End()
		}
		peers = append(peers, w)
	}
	links := []*link.Link{link.New(c.Queue)}
	b := bridge.New(c, links[0])
	for moved := true; moved; {
		moved = false
		if _, ok := b.Wants(); ok {
			if len(links) == len(peers) {
				peers = append(peers, wire.New())
			}
			links = append(links, link.New(c.Queue))
			moved = b.Attach(links[len(links)-1])
		}
		for i, k := range links {
			moved = peers[i].Read(k, api.MaxBody) > 0 || moved
		}
		for b.Step(0) {
			moved = true
		}
		for i, k := range links {
			moved = peers[i].Grant(k, api.MaxBody) > 0 || moved
		}
	}
	var l []api.Sent
	for i, k := range links {
		l = append(l, api.Sent{Text: peers[i].Sent(), Closed: k.Over()})
	}
	return l
}

// P43.6: each client by itself, however octets come and go, and whoever is served when.
func TestAlone(t *testing.T) {
	r := rand.New(rand.NewSource(30))
	requests := []string{"GET / HTTP/1.1|Host: a||", "PUT / HTTP/1.1|Host: b|Content-Length: 3||abc", "PUT / HTTP/1.1|Host: a|Transfer-Encoding: chunked||2|ab|0||", "GET http://a/ HTTP/1.0|Connection: keep-alive||", "GET x HTTP/1.1|Host: a||", "GET / HTTP/1.1|Host: c|Connection: close||", "GE"}
	responses := []string{answer, "HTTP/1.1 200 OK|Content-Length: 2||ab", "HTTP/1.1 200 OK|Transfer-Encoding: chunked||3|abc|0|T: 1||", "HTTP/1.0 200 OK||xyz", "HTTP/1.1 100 C||", "HTTP/1.1 20"}
	for range 300 {
		c := usual(func(c *api.Config) {
			c.Clients, c.Origins, c.Queue, c.Minor, c.Reuse = 3, 3, 1+r.Intn(40), r.Intn(2), r.Intn(2)
		})
		p := New(c, 0)
		texts := map[api.Conn]string{}
		ends := map[api.Conn]bool{}
		var names []api.Conn
		for client := range 3 {
			for origin := range 4 {
				k := conn(client, origin)
				names = append(names, k)
				from := requests
				if origin > 0 {
					from = responses
				}
				for range 1 + r.Intn(4) {
					texts[k] += lines(from[r.Intn(len(from))])
				}
				ends[k] = r.Intn(2) == 0
			}
		}
		left := map[api.Conn]string{}
		for k, s := range texts {
			left[k] = s
		}
		for range 1000 {
			k := names[r.Intn(len(names))]
			switch r.Intn(7) {
			case 0:
				p.Open(k.Client)
			case 1, 2:
				n := min(r.Intn(30), len(left[k]))
				left[k] = left[k][p.Send(k, left[k][:n]):]
				if left[k] == "" && ends[k] {
					p.End(k)
				}
			case 3:
				p.Read(k, r.Intn(20))
			case 4, 5:
				p.Serve(k.Client)
			case 6:
				p.Grant(k, r.Intn(20))
			}
			if p.Live() > c.Origins {
				t.Fatal("live", p.Live())
			}
		}
		for _, k := range names {
			p.Open(k.Client)
			p.Send(k, left[k])
			if ends[k] {
				p.End(k)
			}
		}
		p.Drain(100000)
		for client := range 3 {
			var text []string
			var end []bool
			for origin := range 4 {
				text, end = append(text, texts[conn(client, origin)]), append(end, ends[conn(client, origin)])
			}
			for i, want := range alone(c, text, end) {
				want.Conn = conn(client, i)
				if got := p.Sent(want.Conn); got != want {
					t.Fatalf("%q\n%v\n%v", text, got, want)
				}
			}
		}
	}
}
