package canon

import (
	"math/rand"
	"slices"
	"testing"

	"abutment/api"
	"abutment/octet"
)

// P50.1
func TestName(t *testing.T) {
	for in, want := range map[string]string{
		"": "", "content-length": "Content-Length", "HOST": "Host", "x--a-": "X--A-", "-a": "-A", "etag": "ETag", "zed-z": "Zed-Z", "abc-a": "Abc-A", "ETAG": "ETag", "Te": "TE", "www-Authenticate": "WWW-Authenticate", "dnt": "DNT", "dnts": "Dnts", "x-te": "X-Te", "a1b-2C": "A1b-2c", "a_b": "A_b", "é-É": "é-É", "a\xff-b": "A\xff-B", "aBC": "Abc",
	} {
		if got := Name(in); got != want {
			t.Errorf("%q: %q", in, got)
		}
		if got := Name(Name(in)); got != want {
			t.Errorf("%q: %q", in, got)
		}
	}
}

// P50.1
func TestSingle(t *testing.T) {
	for _, name := range []string{"Set-Cookie", "set-cookie", "WWW-AUTHENTICATE", "Proxy-Authenticate"} {
		if !Single(name) {
			t.Error(name)
		}
	}
	for _, name := range []string{"", "Cookie", "Set-Cookie2", "Proxy-Authorization", "Authenticate", "Via"} {
		if Single(name) {
			t.Error(name)
		}
	}
}

func fields(s ...string) []api.Field {
	var l []api.Field
	for i := 0; i < len(s); i += 2 {
		l = append(l, api.Field{Name: s[i], Value: s[i+1]})
	}
	return l
}

// P50.2
func TestFields(t *testing.T) {
	for _, c := range []struct{ in, want []api.Field }{
		{nil, nil}, {fields("a", "1", "B", "2", "A", "3"), fields("A", "1, 3", "B", "2")}, {fields("set-cookie", "a", "x", " y\t", "Set-Cookie", " b "), fields("Set-Cookie", "a", "Set-Cookie", "b", "X", "y")},
		{fields("a", "", "a", ""), fields("A", ",")}, {fields("a", " 1 ", "a", " 2 "), fields("A", "1 ,  2")}, {fields("a", "1", "a", "1"), fields("A", "1, 1")}, {fields("te", "x", "etag", "y"), fields("TE", "x", "ETag", "y")},
	} {
		kept := slices.Clone(c.in)
		if got := Fields(c.in); !slices.Equal(got, c.want) || !slices.Equal(c.in, kept) {
			t.Errorf("%q: %q", c.in, got)
		}
	}
}

// P50.2
func TestSame(t *testing.T) {
	for _, c := range []struct {
		a, b []api.Field
		want bool
	}{
		{nil, nil, true}, {fields("A", "1", "B", "2"), fields("b", " 2", "a", "1 "), true}, {fields("A", "1", "a", "2"), fields("A", "1, 2"), true}, {fields("A", "1", "a", "2"), fields("A", "2, 1"), false}, {fields("A", "1"), fields("A", "1", "B", ""), false}, {fields("A", "1"), fields("A", "1", "A", "1"), false},
		{fields("Set-Cookie", "a", "x", "", "Set-Cookie", "b"), fields("X", "", "set-cookie", "a", "set-cookie", "b"), true}, {fields("Set-Cookie", "a", "Set-Cookie", "b"), fields("Set-Cookie", "b", "Set-Cookie", "a"), false}, {fields("Set-Cookie", "a", "Set-Cookie", "b"), fields("Set-Cookie", "a, b"), false}, {fields("A", "x"), fields("A", "X"), false},
	} {
		if Same(c.a, c.b) != c.want || Same(c.b, c.a) != c.want {
			t.Errorf("%q %q", c.a, c.b)
		}
	}
}

// P50.2
func TestLines(t *testing.T) {
	if got := Lines(fields("a", "1", "B", "", "A", "2")); !slices.Equal(got, []string{"A: 1, 2", "B: "}) || len(Lines(nil)) != 0 {
		t.Errorf("%q", got)
	}
}

// P50.3
func TestWhatFollows(t *testing.T) {
	r := rand.New(rand.NewSource(13))
	names := []string{"a", "A", "b-c", "B-C", "Set-Cookie", "set-cookie", "te"}
	for range 5000 {
		var l []api.Field
		for range r.Intn(6) {
			l = append(l, api.Field{Name: names[r.Intn(len(names))], Value: []string{"1", " 2", "", "3, 4"}[r.Intn(4)]})
		}
		f := Fields(l)
		if !slices.Equal(Fields(f), f) || !Same(l, f) || !Same(f, l) {
			t.Fatalf("%q: %q", l, f)
		}
		m := slices.Clone(l)
		for i := 0; i+1 < len(m); i++ { // fields of unlike names may change their places
			if !octet.Fold(m[i].Name, m[i+1].Name) && r.Intn(2) == 0 {
				m[i], m[i+1] = m[i+1], m[i]
			}
		}
		if !Same(l, m) {
			t.Fatalf("%q %q", l, m)
		}
	}
}
