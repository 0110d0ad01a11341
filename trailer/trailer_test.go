package trailer

import (
	"slices"
	"strings"
	"testing"

	"abutment/api"
)

const not = "Age, Authorization, Cache-Control, Connection, Content-Encoding, Content-Length, Content-Range, Content-Type, Cookie, Date, Expect, Expires, Host, If-Match, If-Modified-Since, If-None-Match, If-Range, If-Unmodified-Since, Keep-Alive, Location, Max-Forwards, Pragma, Proxy-Authenticate, Proxy-Authorization, Proxy-Connection, Range, Retry-After, Set-Cookie, TE, Trailer, Transfer-Encoding, Upgrade, Vary, Via, WWW-Authenticate"

// P26.1
func TestAllowed(t *testing.T) {
	for _, name := range strings.Split(not, ", ") {
		if Allowed(name) || Allowed(strings.ToLower(name)) || Allowed(strings.ToUpper(name)) || !Allowed(name+"x") || !Allowed("x-"+name) {
			t.Error(name)
		}
	}
	for name, want := range map[string]bool{"": false, "a b": false, "X-Sum": true, "ETag": true, "Server": true, "a:": false, "é": false, "Ag": true, "Content-MD5": true} {
		if Allowed(name) != want {
			t.Error(name)
		}
	}
}

func fields(s ...string) []api.Field {
	var l []api.Field
	for i := 0; i < len(s); i += 2 {
		l = append(l, api.Field{Name: s[i], Value: s[i+1]})
	}
	return l
}

// P26.2, P26.3
func TestKeep(t *testing.T) {
	l := fields("X-Sum", "1", "content-length", "2", "a b", "3", "Y", "4", "x-sum", "5")
	want := fields("X-Sum", "1", "Y", "4", "x-sum", "5")
	if got := Keep(l); !slices.Equal(got, want) || !slices.Equal(Keep(got), want) || len(Keep(nil)) != 0 {
		t.Error(got)
	}
}

// P26.2, P26.3
func TestMerge(t *testing.T) {
	l := make([]api.Field, 0, 9)
	l = append(l, fields("A", "1", "a", "2", "B", "3")...)
	for _, c := range []struct{ trailers, want []api.Field }{
		{nil, l}, {fields("b", "9", "C", "4", "Via", "x", "c", "5"), fields("A", "1", "a", "2", "B", "3", "C", "4", "c", "5")}, {fields("A", "9"), l}, {fields("D", ""), fields("A", "1", "a", "2", "B", "3", "D", "")},
	} {
		if got := Merge(l, c.trailers); !slices.Equal(got, c.want) {
			t.Errorf("%q: %q", c.trailers, got)
		}
	}
	if l[:4][3].Name != "" {
		t.Error("spare room was used")
	}
	if got := Merge(nil, fields("Date", "1", "X", "2")); !slices.Equal(got, fields("X", "2")) {
		t.Error(got)
	}
}
