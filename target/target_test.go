package target

import (
	"strings"
	"testing"

	"abutment/api"
)

// P12.1
func TestParse(t *testing.T) {
	for _, c := range []struct {
		method, s string
		want      api.Target
	}{
		{"GET", "/", api.Target{Form: Origin, Path: "/"}}, {"OPTIONS", "/a?b", api.Target{Form: Origin, Path: "/a?b"}}, {"connect", "/a", api.Target{Form: Origin, Path: "/a"}}, {"GET", "//a", api.Target{Form: Origin, Path: "//a"}},
		{"GET", "http://a.b/c?d", api.Target{Form: Absolute, Authority: "a.b", Path: "/c?d"}}, {"GET", "HTTP://A", api.Target{Form: Absolute, Authority: "A"}}, {"GET", "http://a:81?x/y", api.Target{Form: Absolute, Authority: "a:81", Path: "?x/y"}},
		{"OPTIONS", "http://[::1]:5/", api.Target{Form: Absolute, Authority: "[::1]:5", Path: "/"}}, {"GET", "http://a/http://b", api.Target{Form: Absolute, Authority: "a", Path: "/http://b"}},
		{"OPTIONS", "*", api.Target{Form: Asterisk}}, {"CONNECT", "a:1", api.Target{Form: Authority, Authority: "a:1"}}, {"CONNECT", "[::1]:443", api.Target{Form: Authority, Authority: "[::1]:443"}},
	} {
		got, e := Parse(c.method, c.s)
		if got != c.want || e != api.OK {
			t.Errorf("%s %q: %v %d", c.method, c.s, got, e)
		}
		if text := Text(got); !strings.EqualFold(text[:min(7, len(text))], c.s[:min(7, len(c.s))]) || text[min(7, len(text)):] != c.s[min(7, len(c.s)):] {
			t.Errorf("%q: %q", c.s, text)
		}
	}
}

// P12.1: wrong ones.
func TestWrong(t *testing.T) {
	for _, c := range [][2]string{
		{"GET", "a"}, {"GET", "*"}, {"options", "*"}, {"OPTIONS", "**"}, {"GET", "/a b"}, {"GET", "/a#b"}, {"GET", "#"}, {"GET", "/\xff"}, {"GET", "/\x7f"}, {"GET", " /"}, {"GET", "a:80"}, {"GET", "?a"},
		{"GET", "http://"}, {"GET", "http:///a"}, {"GET", "http://?a"}, {"GET", "http://a:x/"}, {"GET", "http://a:70000/"}, {"GET", "http://u@a/"}, {"GET", "https://a/"}, {"GET", "http:/a"}, {"GET", "http://a#b"}, {"GET", "http://a:/"}, {"GET", "xhttp://a"},
		{"CONNECT", "/"}, {"CONNECT", "*"}, {"CONNECT", "a"}, {"CONNECT", "a:"}, {"CONNECT", ":80"}, {"CONNECT", "[::1]"}, {"CONNECT", "http://a:80"}, {"CONNECT", "a:70000"}, {"CONNECT", "80"}, {"CONNECT", "a:b"}, {"CONNECT", "http://a/:80"}, {"CONNECT", "a:8#0"},
	} {
		if got, e := Parse(c[0], c[1]); got != (api.Target{}) || e != api.ErrTarget {
			t.Errorf("%q: %v %d", c, got, e)
		}
	}
	for _, m := range []string{"GET", "CONNECT", "OPTIONS", ""} {
		if got, e := Parse(m, ""); got != (api.Target{}) || e != api.ErrEnd {
			t.Error(got, e)
		}
	}
}

// P12.2, P12.3
func TestText(t *testing.T) {
	for _, c := range []struct {
		t                  api.Target
		text, out, options string
	}{
		{api.Target{Form: Origin, Authority: "x", Path: "/a"}, "/a", "/a", "/a"}, {api.Target{Form: Absolute, Authority: "a", Path: "/b"}, "http://a/b", "/b", "/b"}, {api.Target{Form: Absolute, Authority: "a"}, "http://a", "/", "*"},
		{api.Target{Form: Absolute, Authority: "a", Path: "?b"}, "http://a?b", "/?b", "/?b"}, {api.Target{Form: Authority, Authority: "a:1", Path: "x"}, "a:1", "a:1", "a:1"}, {api.Target{Form: Asterisk, Authority: "a", Path: "b"}, "*", "*", "*"},
		{api.Target{Authority: "a", Path: "b"}, "", "", ""}, {api.Target{Form: 5, Authority: "a", Path: "b"}, "", "", ""}, {api.Target{Form: -1, Path: "b"}, "", "", ""},
	} {
		if Text(c.t) != c.text || Out("GET", c.t) != c.out || Out("OPTIONS", c.t) != c.options || Out("options", c.t) != c.out {
			t.Errorf("%v: %q %q %q", c.t, Text(c.t), Out("GET", c.t), Out("OPTIONS", c.t))
		}
	}
}
