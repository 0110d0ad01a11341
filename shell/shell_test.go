package shell

import (
	"slices"
	"strings"
	"testing"

	"abutment/api"
	"abutment/config"
	"abutment/script"
)

// quote writes a text as it stands in a line; | ends a line of HTTP.
func quote(s string) string { return script.Quote(strings.ReplaceAll(s, "|", "\r\n")) }

const usual = "abutment - 1 0 1 1 1024 4096 10 0 8 8 0 8192 100 256 65536 0"

// P53.2, P53.3: each word by itself.
func TestWords(t *testing.T) {
	const alone = "abutment - 1 0 1 1 1024 4096 10 0 16 16 0 8192 100 256 65536 0"
	ask := "open 0\nsend 0.0 " + quote("GET / HTTP/1.1|Host: a||") + "\n"
	for line, want := range map[string]string{
		"config " + usual: "ok", "config": "error 3", "config x": "error 3", "config " + usual + " ": "error 3", "now 5": "ok", "now": "error 2", "now x": "error 3", "now 1099511627776": "ok", "now 1099511627777": "error 5", "now 007": "ok",
		"date Sunday, 06-Nov-94 08:49:37 GMT": "Sun, 06 Nov 1994 08:49:37 GMT", "date": "", "date x y": "x y", "host Example.COM:80": "example.com", "host": "error 13", "host a b": "error 13", "host a:81": "a:81", "name te": "TE", "name": "", "name content-length": "Content-Length", "name x y": "X y",
		"chunk 1a": "26", "chunk 0": "0", "chunk": "error 2", "chunk x": "error 3", "chunk fffffffff": "error 5", "chunk 5 ; a=b": "5", "target GET http://a.b/c?d": "/c?d", "target OPTIONS http://a": "*", "target GET": "error 2", "target GET x": "error 11", "target": "error 2", "target GET / x": "error 11", "target CONNECT a:1": "a:1",
		"status 1 4": "431", "status 2 21": "504", "status 1 21": "408", "status": "502", "status 1": "400", "status 1 x": "400", "status x 4": "502", "status 1 101": "400", "status 001 04": "431", "status 101 21": "504", "status 1 4 4": "400",
		"ask " + quote(""): "0 empty 0 0", "ask " + quote("GET / HTTP/1.0||G"): "1 part 18 0", "ask " + quote("GET / HTTP/1.1||"): "0 bad 0 13", "ask": "error 3", "ask x": "error 3", `ask "`: "error 3",
		"answer GET " + quote("HTTP/1.0 200 OK||abc"): "1 empty 0 0", "answer GET " + quote("HTTP/1.1 204 N||x"): "1 extra 18 0", "answer HEAD " + quote("HTTP/1.0 200 OK||"): "1 empty 0 0", "answer GET " + quote("HTTP/1.1 200 OK|Content-Length: 5||x"): "0 bad 0 19", "answer GET": "error 3", "answer": "error 3", "answer " + quote("x"): "error 3",
		"out " + quote("GET http://a.b/c HTTP/1.0||"): quote("GET /c HTTP/1.1|Host: a.b|Via: 1.0 abutment||"), "out " + quote("GET / HTTP/1.0||"): "error 13", "out " + quote("GET"): "none", "out " + quote(""): "none", "out": "error 3", "out " + quote("GET / HTTP/1.1|Host: a|Expect: 100-continue|Content-Length: 1||xG"): quote("GET / HTTP/1.1|Host: a|Via: 1.1 abutment|Content-Length: 1||"),
		"out " + quote("PUT / HTTP/1.1|Host: a|Transfer-Encoding: chunked||1|x|0||"): quote("PUT / HTTP/1.1|Host: a|Via: 1.1 abutment|Transfer-Encoding: chunked||"), "out " + quote("CONNECT a:1 HTTP/1.1|Host: a||"): "error 10",
		"play " + script.Quote(alone+"\n0\n"): "0 0", "play " + script.Quote(alone+"\n0\n"+ask): "2 46", "play " + script.Quote(usual+"\n0\n"): "error 1", "play " + script.Quote(alone+"\n0\ntick 0\n"): "error 1", "play " + script.Quote(alone+"\n0\nx\n"): "error 3", "play " + quote(""): "error 2", "play": "error 3", "play x": "error 3",
		"play " + script.Quote(strings.Replace(alone, "0 16 16 0", "5 16 16 0", 1)+"\n0\n"): "error 1", "play " + script.Quote(strings.Replace(alone, "0 16 16 0", "0 16 16 1", 1)+"\n0\n"): "error 1", "play " + script.Quote(strings.Replace(alone, "0 16 16 0", "0 15 16 0", 1)+"\n0\n"): "error 1", "play " + script.Quote(strings.Replace(alone, "0 16 16 0", "0 16 15 0", 1)+"\n0\n"): "error 1",
		"flap": "error 3", " ": "error 3", " name te": "error 3", "Name te": "error 3", "names": "error 3", "name\tte": "error 3", "x y z": "error 3",
	} {
		if got, e := Run(line); !slices.Equal(got, []string{want}) || e != api.OK {
			t.Errorf("%q: %q %d, not %q", line, got, e, want)
		}
	}
}

// P53.2: settings and the time hold from then on, but not what is wrong.
func TestSet(t *testing.T) {
	c := config.Usual()
	c.Name, c.Minor, c.Authority = "other", 0, "z"
	put := "out " + quote("PUT / HTTP/1.1|Host: a|Transfer-Encoding: chunked||2|xy|0||")
	lines := []string{
		"date Friday, 06-Nov-76 08:49:37 GMT", "now 1793000000", "date Friday, 06-Nov-76 08:49:37 GMT", "now x", "date Friday, 06-Nov-76 08:49:37 GMT", put, "config " + config.Print(c), put, "config x", put, "config " + strings.Replace(usual, "8192", "17", 1), "ask " + quote("GET / HTTP/1.0||"), "config " + usual, put,
	}
	want := []string{
		"Friday, 06-Nov-76 08:49:37 GMT", "ok", "Fri, 06 Nov 2076 08:49:37 GMT", "error 3", "Fri, 06 Nov 2076 08:49:37 GMT", quote("PUT / HTTP/1.1|Host: a|Via: 1.1 abutment|Transfer-Encoding: chunked||"), "ok", quote("PUT / HTTP/1.0|Host: a|Via: 1.1 other|Content-Length: 2|Connection: keep-alive||"), "error 3", quote("PUT / HTTP/1.0|Host: a|Via: 1.1 other|Content-Length: 2|Connection: keep-alive||"), "ok", "0 bad 0 4", "ok", quote("PUT / HTTP/1.1|Host: a|Via: 1.1 abutment|Transfer-Encoding: chunked||"),
	}
	if got, e := Run(strings.Join(lines, "\n")); !slices.Equal(got, want) || e != api.OK {
		t.Errorf("%q", got)
	}
	for i := range lines { // P53.4
		if got, e := Run(strings.Join(lines[:i], "\n\n") + "\n"); !slices.Equal(got, want[:i]) || e != api.OK {
			t.Errorf("%d: %q", i, got)
		}
	}
}

// P53.1
func TestRun(t *testing.T) {
	for _, c := range []struct {
		text string
		n    int
		e    api.Errno
	}{
		{"", 0, api.OK}, {"\n\n", 0, api.OK}, {"x", 1, api.OK}, {"x\n", 1, api.OK}, {"\nx\n\ny\n", 2, api.OK}, {strings.Repeat("x", 20000), 1, api.OK}, {strings.Repeat("x", 20001), 0, api.ErrLong}, {strings.Repeat("x\n", 299) + "x", 300, api.OK}, {strings.Repeat("x\n", 299), 299, api.OK}, {strings.Repeat("\n", 299), 0, api.OK}, {strings.Repeat("\n", 301), 0, api.ErrLong}, {strings.Repeat("x\n", 300) + "x", 0, api.ErrLong},
	} {
		if got, e := Run(c.text); len(got) != c.n || e != c.e {
			t.Errorf("%d octets: %d %d", len(c.text), len(got), e)
		}
	}
}
