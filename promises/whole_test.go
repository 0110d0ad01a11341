package promises

import (
	"math/rand"
	"strings"
	"testing"

	"abutment/api"
	"abutment/config"
	"abutment/message"
	"abutment/proxy"
)

func crlf(s string) string { return strings.ReplaceAll(s, "|", "\r\n") }

func conn(client, origin int) api.Conn { return api.Conn{Client: client, Origin: origin} }

// ambiguous are messages of which nothing may be taken, with their errors.
var ambiguous = []struct {
	s string
	e api.Errno
}{
	{"PUT / HTTP/1.1|Host: a|Content-Length: 1|Content-Length: 2||", api.ErrFrame}, {"PUT / HTTP/1.1|Host: a|Content-Length: 1, 2||", api.ErrFrame}, {"PUT / HTTP/1.1|Host: a|Content-Length: 1|Transfer-Encoding: chunked||", api.ErrFrame}, {"PUT / HTTP/1.1|Host: a|Transfer-Encoding: chunked, gzip||", api.ErrFrame}, {"PUT / HTTP/1.1|Host: a|Transfer-Encoding: x, chunked||", api.ErrCoding},
	{"PUT / HTTP/1.0|Transfer-Encoding: chunked||", api.ErrFrame}, {"GET / HTTP/1.1\nHost: a||", api.ErrLine}, {"GET / HTTP/1.1|Host: a\rb||", api.ErrLine}, {"GET / HTTP/1.1|Host : a||", api.ErrName}, {"PUT / HTTP/1.1|Host: a|Content-Length: 2147483648||", api.ErrFrame}, {"PUT / HTTP/1.1|Host: a|Transfer-Encoding: chunked||80000000|", api.ErrNum},
	{"GET / HTTP/1.1||", api.ErrHost}, {"GET / HTTP/1.1|Host: a|Host: a||", api.ErrHost}, {"GET / HTTP/1.1|Host: a|Transfer-Encoding:||", api.ErrFrame}, {"PUT / HTTP/1.1|Host: a|Transfer-Encoding: chunked||1|a\n", api.ErrForm}, {"GET / HTTP/1.1|Host: a| b||", api.ErrForm},
}

// P3: nothing ambiguous is taken; P6: and nothing of it, nor of what stands behind it, goes on from a head that is wrong.
func TestAmbiguous(t *testing.T) {
	const good = "GET /good HTTP/1.1|Host: a||"
	for _, x := range ambiguous {
		if l, tail := message.Requests(crlf(good+x.s+good), false, config.Usual().Limits); len(l) != 1 || tail != (api.Tail{Kind: api.Bad, At: len(crlf(good)), Err: x.e}) {
			t.Errorf("%q: %d %v", x.s, len(l), tail)
		}
		p := proxy.New(config.Usual(), 0)
		p.Open(0)
		p.Send(conn(0, 0), crlf(good+x.s+good+good))
		p.Send(conn(0, 1), crlf("HTTP/1.1 204 N||HTTP/1.1 204 N||HTTP/1.1 204 N||"))
		p.Drain(1000)
		passed, _ := message.Requests(p.Sent(conn(0, 1)).Text, true, config.Usual().Limits)
		client := p.Sent(conn(0, 0))
		answers, tail := message.Responses(client.Text, client.Closed, []string{"GET", "PUT", "GET"}, config.Usual().Limits)
		if len(passed) != 1 || passed[0].Head.Target != "/good" || len(answers) != 2 || answers[1].Head.Status < 400 || tail != (api.Tail{}) || !client.Closed || len(p.Conns()) != 2 {
			t.Errorf("%q: %v %v", x.s, passed, answers)
		}
	}
}

// P5: what is cut never goes out as whole, but to HTTP/1.0, where its end is told by closing.
func TestCut(t *testing.T) {
	const sized, chunks = "HTTP/1.1 200 OK|Content-Length: 3||abc", "HTTP/1.1 200 OK|Transfer-Encoding: chunked||2|ab|1|c|0||"
	for _, whole := range []string{crlf(sized), crlf(chunks)} {
		for cut := range whole {
			for _, ask := range []string{"GET / HTTP/1.1|Host: a||", "GET / HTTP/1.0|Host: a||"} {
				for stream := range 2 {
					c := config.Usual()
					c.Stream = stream
					p := proxy.New(c, 0)
					p.Open(0)
					p.Send(conn(0, 0), crlf(ask))
					p.Send(conn(0, 1), whole[:cut])
					p.End(conn(0, 1))
					p.Drain(100)
					sent := p.Sent(conn(0, 0))
					l, _ := message.Responses(sent.Text, sent.Closed, []string{"GET"}, c.Limits)
					for _, m := range l {
						if m.Head.Status == 200 && (m.Frame.Kind != api.Close || stream == 0 || !strings.Contains(ask, "1.0")) {
							t.Errorf("%q to %q: %v", whole[:cut], ask, m)
						}
					}
					if !sent.Closed {
						t.Errorf("%q to %q: not closed", whole[:cut], ask)
					}
				}
			}
		}
	}
}

// P8: what is too long is told so, more clients than slots are refused, and all is done within its rounds.
func TestRoom(t *testing.T) {
	status := func(c api.Config, s string) int {
		p := proxy.New(c, 0)
		p.Open(0)
		p.Send(conn(0, 0), crlf(s))
		p.Drain(10000)
		l, _ := message.Responses(p.Sent(conn(0, 0)).Text, true, []string{"PUT"}, config.Usual().Limits)
		if len(l) == 0 {
			return 0
		}
		return l[0].Head.Status
	}
	c := config.Usual()
	c.Limits.Head, c.Limits.Body, c.Minor, c.Clients = 60, 3, 0, 1
	for s, want := range map[string]int{
		"PUT / HTTP/1.1|Host: a|X: 12345678901234567890||": 0, "PUT / HTTP/1.1|Host: a|X: 123456789012345678901234567890||": 431, "PUT / HTTP/1.1|Host: a|Transfer-Encoding: chunked||3|abc|0||": 0, "PUT / HTTP/1.1|Host: a|Transfer-Encoding: chunked||4|abcd|0||": 413, "PUT / HTTP/1.1|Host: a|Content-Length: 4||abcd": 0,
	} {
		if got := status(c, s); got != want {
			t.Errorf("%q: %d", s, got)
		}
	}
	p := proxy.New(c, 0)
	if p.Open(3) != api.OK || p.Open(4) != api.ErrFull {
		t.Error("slots")
	}
	r := rand.New(rand.NewSource(42))
	for range 50 {
		c := config.Usual()
		c.Queue, c.Clients, c.Origins = 1+r.Intn(5), 4, 1+r.Intn(4)
		c.Share = r.Intn(2)
		p := proxy.New(c, 0)
		octets := 0
		asked := 0
		for client := range 4 {
			p.Open(client)
			for range 1 + r.Intn(3) {
				octets += p.Send(conn(client, 0), crlf("GET / HTTP/1.1|Host: "+string(rune('a'+r.Intn(3)))+"||"))
				asked++
			}
			for origin := range 4 {
				octets += p.Send(conn(client, 1+origin), crlf(strings.Repeat("HTTP/1.1 204 N||", 12)))
			}
		}
		n := 0
		for ; p.Drain(1) == 1; n++ {
			if p.Live() > c.Origins {
				t.Error("live", p.Live(), "of", c.Origins)
			}
		}
		if n > 4*octets {
			t.Error("rounds", n, "of octets", octets)
		}
		answered := 0
		for client := range 4 {
			answered += strings.Count(p.Sent(conn(client, 0)).Text, "204 N")
		}
		if answered != asked {
			t.Error("answered", answered, "of", asked)
		}
	}
}
