package promises

import (
	"math/rand"
	"os"
	"strconv"
	"strings"
	"testing"

	"abutment/api"
	"abutment/audit"
	"abutment/config"
	"abutment/proxy"
)

// odd are lines of fields that are read, taken out, rewritten, or refused.
var odd = []string{
	"Connection: x, te", "X: 1", "X: 2", "TE: trailers", "Via: 1.0 q (", "Via: 1.1 r", "Expect: 100-continue", "Date: Sun Nov  6 08:49:37 1994", "Date: q", "Content-Length: 0", "Content-Length: 3", "Content-Length: 3, 03", "Transfer-Encoding: chunked", "Transfer-Encoding: chunked", "If-Modified-Since: Sun Nov  6 08:49:37 1994",
	"Set-Cookie: a", "Pragma: no-cache", "Cache-Control: max-age=5", "Cache-Control: private", "Trailer: T", "T: 9", "Upgrade: x", "Keep-Alive: timeout=5", "Connection: keep-alive", "Connection: close", "Connection: host, via, content-length, date, y", "Y: 4", "y: 5", "Expires: 0", "Expires: Sun, 06 Nov 1994 08:49:37 GMT",
	"A:", "Warning: \"(", "Connection: a b", "Proxy-Connection: z",
}

// chaos makes what peers send.
type chaos struct{ *rand.Rand }

func (x chaos) pick(l ...string) string { return l[x.Intn(len(l))] }

// chunks is a body in chunks, with some trailers.
func (x chaos) chunks() string {
	s := x.pick("3|abc|0|", "1|a|2;x=y|bc|0|", "0|")
	for range x.Intn(3) {
		s += x.pick("T: 1", "Set-Cookie: b", "X: 5", "Host: q", "Y: 7", "a: 1") + "|"
	}
	return s + "|"
}

// body is mostly one that the fields tell.
func (x chaos) body(fields []string) string {
	all := strings.Join(fields, "|")
	switch {
	case x.Intn(8) == 0:
		return x.pick("", "abc", "3|ab", x.chunks())
	case strings.Contains(all, "chunked"):
		return x.chunks()
	case strings.Contains(all, "Length: 3"):
		return "abc"
	}
	return ""
}

// message is one that begins with that line.
func (x chaos) message(first string, fields ...string) string {
	for range x.Intn(5) {
		fields = append(fields, x.pick(odd...))
	}
	x.Shuffle(len(fields), func(i, j int) { fields[i], fields[j] = fields[j], fields[i] })
	s := first + "|"
	for _, f := range fields {
		s += f + "|"
	}
	return crlf(s + "|" + x.body(fields))
}

func (x chaos) request() string {
	first := x.pick("GET", "PUT", "HEAD", "OPTIONS") + " " + x.pick("/", "/a?b", "http://a.b/c", "http://Q:81", "http://z?x", "*") + " " + x.pick("HTTP/1.1", "HTTP/1.1", "HTTP/1.0", "HTTP/1.5")
	if x.Intn(8) == 0 {
		return x.message(first)
	}
	return x.message(first, x.pick("Host: a", "Host: B:80", "host: c:5"))
}

func (x chaos) response() string {
	return x.message(x.pick("HTTP/1.1", "HTTP/1.1", "HTTP/1.0") + " " + x.pick("200 OK", "200 OK", "204 N", "304 x", "100 C", "103 E", "404 No", "500 "))
}

// settings are some under which a client is by itself.
func (x chaos) settings() api.Config {
	c := config.Usual()
	c.Minor, c.Stream, c.Trailers, c.Reuse, c.Limits.Fold = x.Intn(2), x.Intn(2), x.Intn(2), x.Intn(2), x.Intn(2)
	c.Chunk, c.Queue, c.Interim, c.Limits.Body = 1+x.Intn(5), 1+x.Intn(100), x.Intn(3), 2+x.Intn(5)
	return c
}

// texts are what a client and its origins send; of those that are marked the peer closes then.
func (x chaos) texts() (in []string, ends []bool) {
	for i := range 6 {
		s := ""
		for range 1 + x.Intn(4) {
			if i == 0 {
				s += x.request()
			} else {
				s += x.response()
			}
		}
		in, ends = append(in, s), append(ends, x.Intn(2) == 0)
	}
	return in, ends
}

// send lets the peers send all of it.
func send(p *proxy.Proxy, in []string, ends []bool) {
	for i, s := range in {
		p.Send(conn(0, i), s)
		if ends[i] {
			p.End(conn(0, i))
		}
	}
}

// rounds is how often a test is done: more often, if ROUNDS says so.
func rounds(usual int) int {
	if n, err := strconv.Atoi(os.Getenv("ROUNDS")); err == nil {
		return n
	}
	return usual
}

// P4, P5: each message that went out whole comes of one that came in whole, or is a refusal.
func TestWhatComesOfWhat(t *testing.T) {
	x := chaos{rand.New(rand.NewSource(43))}
	sum := audit.Report{}
	n := rounds(4000)
	for range n {
		c := x.settings()
		in, ends := x.texts()
		p := proxy.New(c, 0)
		p.Open(0)
		send(p, in, ends)
		p.Drain(10000)
		var records []audit.Record
		for i := range p.Conns() {
			s := p.Sent(conn(0, i))
			records = append(records, audit.Record{In: in[i], Ended: ends[i], Out: s.Text, Shut: s.Closed})
		}
		got := audit.Client(c, records[0], records[1:]...)
		if got.Err != api.OK || got.At != 0 {
			t.Fatalf("%+v\n%+v\n%+v", got, c, records)
		}
		sum.Passed += got.Passed
		sum.Answered += got.Answered
		sum.Refused += got.Refused
	}
	if sum.Passed < n/2 || sum.Answered < n/4 || sum.Refused < n/4 {
		t.Error(sum)
	}
}

// P7: however octets come, the same goes out.
func TestHoweverItComes(t *testing.T) {
	x := chaos{rand.New(rand.NewSource(44))}
	for range rounds(2000) {
		c := x.settings()
		c.Limits.Head, c.Limits.Line, c.Limits.Fields = 60+x.Intn(200), 3+x.Intn(10), 1+x.Intn(8)
		in, ends := x.texts()
		if i := x.Intn(12); i < len(in) { // some are spoilt
			b := []byte(in[i])
			b[x.Intn(len(b))] = byte(x.Intn(256))
			in[i] = string(b)
		}
		p := proxy.New(c, 0)
		p.Open(0)
		send(p, in, ends)
		p.Drain(100000)
		c.Queue = 1 + x.Intn(100)
		q := proxy.New(c, 0)
		q.Open(0)
		left := append([]string(nil), in...)
		for range x.Intn(600) {
			i := x.Intn(len(in))
			switch x.Intn(5) {
			case 0, 1:
				n := min(len(left[i]), x.Intn(40))
				left[i] = left[i][q.Send(conn(0, i), left[i][:n]):]
			case 2:
				q.Read(conn(0, i), x.Intn(30))
			case 3:
				q.Serve(0)
			default:
				q.Grant(conn(0, i), x.Intn(30))
			}
		}
		send(q, left, ends)
		q.Drain(100000)
		if len(p.Conns()) != len(q.Conns()) || p.Phase(0) != q.Phase(0) {
			t.Fatalf("%+v\n%q: %v %v", c, in, p.Conns(), q.Conns())
		}
		for _, k := range p.Conns() {
			if p.Sent(k) != q.Sent(k) {
				t.Fatalf("%+v\n%q\n%v\n%v", c, in, p.Sent(k), q.Sent(k))
			}
		}
	}
}
