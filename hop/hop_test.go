package hop

import (
	"slices"
	"testing"

	"abutment/api"
)

func fields(s ...string) []api.Field {
	var l []api.Field
	for i := 0; i < len(s); i += 2 {
		l = append(l, api.Field{Name: s[i], Value: s[i+1]})
	}
	return l
}

var own = []string{"Connection", "Keep-Alive", "Proxy-Connection", "TE", "Trailer", "Transfer-Encoding", "Upgrade"}

// P29.1
func TestNames(t *testing.T) {
	for _, c := range []struct {
		l    []api.Field
		more []string
	}{
		{nil, nil}, {fields("connection", "Close, X-A", "Connection", "b, HOST, content-Length, VIA, b"), []string{"close", "x-a", "b", "b"}}, {fields("Connection", "X-A, a b"), nil}, {fields("Connection", "X-A, \""), nil}, {fields("X", "close"), nil}, {fields("Connection", "te, hosts"), []string{"te", "hosts"}},
	} {
		if got := Names(c.l); !slices.Equal(got, append(slices.Clone(own), c.more...)) {
			t.Errorf("%q: %q", c.l, got)
		}
	}
}

// P29.1, P29.2
func TestStrip(t *testing.T) {
	for _, c := range []struct{ l, want []api.Field }{
		{fields("Connection", "close, X-A", "X-A", "1", "X-B", "2"), fields("X-B", "2")}, {fields("Host", "a", "connection", "host, via, content-length, y", "Via", "1 a", "Content-Length", "5", "Y", "1", "y", "2", "Z", "3"), fields("Host", "a", "Via", "1 a", "Content-Length", "5", "Z", "3")},
		{fields("keep-alive", "1", "proxy-connection", "2", "te", "3", "TRAILER", "4", "transfer-encoding", "5", "upgrade", "6", "Close", "7"), fields("Close", "7")}, {fields("Connection", "a b, x", "X", "1"), fields("X", "1")}, {nil, nil}, {fields("A", "1", "a", "2"), fields("A", "1", "a", "2")},
	} {
		kept := slices.Clone(c.l)
		got := Strip(c.l)
		if !slices.Equal(got, c.want) || !slices.Equal(Strip(got), got) || !slices.Equal(c.l, kept) {
			t.Errorf("%q: %q", c.l, got)
		}
	}
}
