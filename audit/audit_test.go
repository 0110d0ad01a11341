package audit

import (
	"math/rand"
	"strings"
	"testing"

	"abutment/api"
	"abutment/config"
	"abutment/proxy"
)

func lines(s string) string { return strings.ReplaceAll(s, "|", "\r\n") }

// record is what came and went on a connection; behind a $ no more does.
func record(in, out string) Record {
	var r Record
	r.In, r.Ended = strings.CutSuffix(lines(in), "$")
	r.Out, r.Shut = strings.CutSuffix(lines(out), "$")
	return r
}

// P48.1
func TestWide(t *testing.T) {
	if Wide() != (api.Limits{Head: 65536, Fields: 2000, Line: 64}) {
		t.Error(Wide())
	}
}

const (
	ask     = "GET / HTTP/1.1|Host: a||"
	asked   = "GET / HTTP/1.1|Host: a|Via: 1.1 abutment||"
	answer  = "HTTP/1.1 204 N||"
	told    = "HTTP/1.1 204 N|Via: 1.1 abutment||"
	refused = "HTTP/1.1 502 Bad Gateway|Content-Length: 0|Connection: close||"
	put     = "PUT / HTTP/1.1|Host: a|Content-Length: 2||"
	putting = "PUT / HTTP/1.1|Host: a|Via: 1.1 abutment|Content-Length: 2||"
	closing = "GET http://a/ HTTP/1.0||"
	closes  = "GET / HTTP/1.1|Host: a|Via: 1.0 abutment||"
	open    = "HTTP/1.0 200 OK||abc$"
	passed  = "HTTP/1.0 200 OK|Via: 1.0 abutment|Connection: close||"
)

// P48.2, P48.3
func TestClient(t *testing.T) {
	for _, c := range []struct {
		name    string
		client  Record
		origins []Record
		want    Report
	}{
		{"nothing", record("", ""), nil, Report{}},
		{"one", record(ask, told), []Record{record(answer, asked)}, Report{Asked: 1, Passed: 1, Answered: 1}},
		{"two, and a refusal", record(ask+ask+ask, told+told+refused+"$"), []Record{record(answer, asked+"$"), record(answer, asked+asked+"$")}, Report{Asked: 3, Passed: 3, Answered: 2, Refused: 1}},
		{"nobody asked", record(ask, told), []Record{record(answer, asked+asked)}, Report{Asked: 1, Passed: 2, Answered: 1, At: 1, Err: api.ErrLong}},
		{"asked only in part", record(put+"x", ""), []Record{record("", putting+"xy")}, Report{Passed: 1, Err: api.ErrLong}},
		{"another request", record(ask+ask, told), []Record{record(answer, asked+strings.Replace(asked, "GET", "PUT", 1))}, Report{Asked: 2, Passed: 2, Answered: 1, At: 1, Err: api.ErrMethod}},
		{"the first one's error", record(ask+ask, told), []Record{record(answer, strings.Replace(asked, "1.1 a", "1.0 a", 1)+strings.Replace(asked, "GET", "PUT", 1))}, Report{Asked: 2, Passed: 2, Answered: 1, Err: api.ErrLoop}},
		{"wrong behind a request", record(ask, told), []Record{record(answer, asked+"G\n")}, Report{Asked: 1, Passed: 1, Answered: 1, At: 1, Err: api.ErrForm}},
		{"cut behind a request", record(ask+put, told), []Record{record(answer, asked+putting+"x$")}, Report{Asked: 1, Passed: 1, Answered: 1}},
		{"cut ahead of another origin", record(ask+ask, told), []Record{record("", putting+"x$"), record(answer, asked)}, Report{Asked: 2, Passed: 1, Answered: 1, At: 1, Err: api.ErrForm}},
		{"begun ahead of another origin", record(ask+ask, told), []Record{record("", "P"), record(answer, asked)}, Report{Asked: 2, Passed: 1, Answered: 1, At: 1, Err: api.ErrForm}},
		{"begun at the last origin", record(ask+put, told), []Record{record(answer, asked), record("", putting)}, Report{Asked: 1, Passed: 1, Answered: 1}},
		{"answered ahead of its body", record(put, told), []Record{record(answer, putting)}, Report{Answered: 1}},
		{"answered ahead of its body, cut", record(put, strings.Replace(told, "|Via", "|Content-Length: 9|Via", 1)+"$"), []Record{record(strings.Replace(answer, "||", "|Content-Length: 9||", 1), putting+"$")}, Report{Answered: 1}},
		{"HEAD ahead of its body", record("HEAD / HTTP/1.1|Host: a|Content-Length: 2||", "HTTP/1.1 200 OK|Via: 1.1 abutment|Content-Length: 5|Connection: close||$"), []Record{record("HTTP/1.1 200 OK|Content-Length: 5||", "HEAD / HTTP/1.1|Host: a|Via: 1.1 abutment|Content-Length: 2||$")}, Report{Answered: 1}},
		{"GET where nothing is known", record("", "HTTP/1.1 200 OK|Content-Length: 1||x"), nil, Report{Answered: 1, Err: api.ErrCut}},
		{"a refusal that isn't the last one", record(ask+ask, refused+told), []Record{record(answer, asked)}, Report{Asked: 2, Passed: 1, Answered: 1, Refused: 1, Err: api.ErrState}},
		{"an answer that nobody gave", record(ask+ask, told+told), []Record{record(answer, asked+asked)}, Report{Asked: 2, Passed: 2, Answered: 2, At: 1, Err: api.ErrCut}},
		{"another answer", record(ask, strings.Replace(told, "204", "304", 1)), []Record{record(answer, asked)}, Report{Asked: 1, Passed: 1, Answered: 1, Err: api.ErrStatus}},
		{"another answer behind one", record(ask+ask, told+strings.Replace(told, "||", "|X: y||", 1)), []Record{record(answer+answer, asked+asked)}, Report{Asked: 2, Passed: 2, Answered: 2, At: 1, Err: api.ErrName}},
		{"to HTTP/1.0", record(closing, passed+"abc$"), []Record{record(open, closes)}, Report{Asked: 1, Passed: 1, Answered: 1}},
		{"to HTTP/1.0, not all", record(closing, passed+"ab$"), []Record{record(open, closes)}, Report{Asked: 1, Passed: 1, Answered: 1}},
		{"to HTTP/1.0, another body", record(closing, passed+"ax$"), []Record{record(open, closes)}, Report{Asked: 1, Passed: 1, Answered: 1, Err: api.ErrValue}},
		{"to HTTP/1.0, cut", record(closing, passed+"ab$"), []Record{record("HTTP/1.0 200 OK|Content-Length: 5||ab$", closes)}, Report{Asked: 1, Passed: 1, Answered: 1}},
		{"another version", record(closing, strings.Replace(passed, "1.0 200", "1.1 200", 1)+"abc$"), []Record{record(open, closes)}, Report{Asked: 1, Passed: 1, Answered: 1, Err: api.ErrVersion}},
		{"interim ones", record(ask, "HTTP/1.1 199 P|Via: 1.1 abutment||"+told), []Record{record("HTTP/1.1 103 Q||HTTP/1.1 199 P||"+answer, asked)}, Report{Asked: 1, Passed: 1, Answered: 1}},
		{"no HTTP to the client", record(ask, "x||"), []Record{record("", asked)}, Report{Asked: 1, Passed: 1, Err: api.ErrForm}},
		{"no HTTP behind an answer", record(ask+ask, told+"x||"), []Record{record(answer, asked+asked)}, Report{Asked: 2, Passed: 2, Answered: 1, At: 1, Err: api.ErrForm}},
		{"more than can be asked for", record(ask, told+told+"x"), []Record{record(answer+answer, asked+"GET / HTTP/1.1|Host: a||")}, Report{Asked: 1, Passed: 2, Answered: 2, At: 1, Err: api.ErrLong}},
		{"something behind all", record("", refused+"x"), nil, Report{Refused: 1, At: 1, Err: api.ErrForm}},
		{"cut within an answer", record(ask, strings.TrimSuffix(told, "||")+"$"), []Record{record(answer, asked)}, Report{Asked: 1, Passed: 1}},
		{"by the limits", record("GET / HTTP/1.1|Host: a|X: "+strings.Repeat("x", 9000)+"||", ""), nil, Report{}},
	} {
		if got := Client(config.Usual(), c.client, c.origins...); got != c.want {
			t.Errorf("%s: %+v", c.name, got)
		}
	}
}

// The settings play their part.
func TestConfig(t *testing.T) {
	c := config.Usual()
	c.Name, c.Minor, c.Authority = "other", 0, "z"
	client := record("GET / HTTP/1.0||", "HTTP/1.0 204 N|Via: 1.1 other|Connection: close||$")
	if got := Client(c, client, record(answer, "GET / HTTP/1.0|Host: z|Via: 1.0 other||")); got != (Report{Asked: 1, Passed: 1, Answered: 1}) {
		t.Error(got)
	}
}

var requests = []string{
	ask, ask, put + "xy", put + "xy", "PUT / HTTP/1.1|Host: b|Transfer-Encoding: chunked||2|ab|1;x|c|0|T: 1|Date: x||", closing, "GET http://a/b HTTP/1.0|Connection: keep-alive|Pragma: no-cache||", "PUT / HTTP/1.1|Host: a|Expect: 100-continue|Content-Length: 2||xy", "HEAD / HTTP/1.1|Host: c||",
	"GET / HTTP/1.1|Host: a|Via: 1.0 x|Connection: close, y|Y: 1|Z: 2|Date: Sunday, 06-Nov-94 08:49:37 GMT||", "OPTIONS * HTTP/1.1|Host: a||", "GET x HTTP/1.1|Host: a||", "GET / HTTP/1.1||", "|", "GE", put + "x", "\n",
}

var responses = []string{
	answer, answer, "HTTP/1.1 200 OK|Content-Length: 2|A: b||xy", "HTTP/1.1 200 OK|Content-Length: 2|A: b||xy", "HTTP/1.1 200 OK|Transfer-Encoding: chunked||1|a|2|bc|0|T: 1|U: 2||", "HTTP/1.0 200 OK|Date: Sun Nov  6 08:49:37 1994|Expires: 0||abc", "HTTP/1.1 100 C||", "HTTP/1.1 103 E|X: y||", "HTTP/1.1 304 N|Content-Length: 7||",
	"HTTP/1.0 200 OK|Connection: keep-alive|Keep-Alive: 5|Content-Length: 1||z", "HTTP/1.1 200 OK|Cache-Control: private|Connection: close|Content-Length: 0||", "HTTP/1.1 101 S||", "x||", "HTTP/1.1 200 OK|Content-Length: 9||abc", "HT", "HTTP/1.1 200 OK|Transfer-Encoding: chunked||5|ab", "HTTP/1.1 200 OK|Transfer-Encoding: chunked||x|",
}

// some are a few texts, the first ones of which are the more likely ones.
func some(r *rand.Rand, from []string) string {
	s := ""
	for range 1 + r.Intn(4) {
		s += from[min(r.Intn(len(from)), r.Intn(len(from)))]
	}
	return lines(s)
}

// P48.4: of what went for a client that is by itself nothing is wrong.
func TestByItself(t *testing.T) {
	r := rand.New(rand.NewSource(32))
	sums := Report{}
	for range 4000 {
		c := config.Usual()
		c.Minor, c.Stream, c.Trailers, c.Reuse, c.Chunk, c.Queue, c.Interim, c.Limits.Body = r.Intn(2), r.Intn(2), r.Intn(2), r.Intn(2), 1+r.Intn(5), 1+r.Intn(100), r.Intn(3), r.Intn(5)
		p := proxy.New(c, 0)
		p.Open(0)
		records := make([]Record, 6)
		for i := range records {
			k := api.Conn{Origin: i}
			records[i].In = some(r, requests)
			if i > 0 {
				records[i].In = some(r, responses)
			}
			p.Send(k, records[i].In)
			if records[i].Ended = r.Intn(2) == 0; records[i].Ended {
				p.End(k)
			}
		}
		p.Drain(1000)
		n := len(p.Conns())
		for i := range records[:n] {
			sent := p.Sent(api.Conn{Origin: i})
			records[i].Out, records[i].Shut = sent.Text, sent.Closed
		}
		got := Client(c, records[0], records[1:n]...)
		if got.Err != api.OK || got.At != 0 {
			t.Fatalf("%+v\n%+v\n%+v", got, records[:n], c)
		}
		sums.Passed += got.Passed
		sums.Answered += got.Answered
		sums.Refused += got.Refused
	}
	if sums.Passed < 4000 || sums.Answered < 3000 || sums.Refused < 500 {
		t.Error(sums)
	}
}
