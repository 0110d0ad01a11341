package host

import (
	"math/rand"
	"strings"
	"testing"

	"abutment/api"
)

// P11.1: each octet in a name, and in a literal.
func TestEachOctet(t *testing.T) {
	const letters = "abcdefghijklmnopqrstuvwxyzABCDEFGHIJKLMNOPQRSTUVWXYZ0123456789"
	for n := 0; n < 256; n++ {
		c := string([]byte{byte(n)})
		if c == ":" || c == "%" {
			continue
		}
		if _, _, e := Parse("a" + c + "b"); (e == api.OK) != strings.Contains(letters+"-._~!$&'()*+,;=", c) {
			t.Errorf("%q: %d", c, e)
		}
		if _, _, e := Parse("[a" + c + "b]"); (e == api.OK) != strings.Contains("abcdefABCDEF0123456789.", c) {
			t.Errorf("[%q]: %d", c, e)
		}
		if _, _, e := Parse("%a" + c); (e == api.OK) != strings.Contains("abcdefABCDEF0123456789", c) {
			t.Errorf("%%a%q: %d", c, e)
		}
	}
}

// P11.2
func TestParse(t *testing.T) {
	for _, c := range []struct {
		s, name string
		port    int
		e       api.Errno
	}{
		{"a", "a", 80, api.OK}, {"Example.COM:80", "Example.COM", 80, api.OK}, {"[::1]:8080", "[::1]", 8080, api.OK}, {"[::1]", "[::1]", 80, api.OK}, {"a:0", "a", 0, api.OK}, {"a:65535", "a", 65535, api.OK}, {"a:0000000000000000000000080", "a", 80, api.OK},
		{"%41%4f", "%41%4f", 80, api.OK}, {"a%2Fb:1", "a%2Fb", 1, api.OK}, {"[.]", "[.]", 80, api.OK}, {"[:]:5", "[:]", 5, api.OK}, {"(a)", "(a)", 80, api.OK}, {"1.2.3.4:81", "1.2.3.4", 81, api.OK},
		{"", "", 0, api.ErrEnd}, {":", "", 0, api.ErrForm}, {":80", "", 0, api.ErrForm}, {"a:", "", 0, api.ErrForm}, {"a:b", "", 0, api.ErrForm}, {"a:8x", "", 0, api.ErrForm}, {"a:-1", "", 0, api.ErrForm}, {"a:1:2", "", 0, api.ErrForm}, {"a b", "", 0, api.ErrForm},
		{"a/", "", 0, api.ErrForm}, {"u@a", "", 0, api.ErrForm}, {"[]", "", 0, api.ErrForm}, {"[", "", 0, api.ErrForm}, {"]", "", 0, api.ErrForm}, {"[::1", "", 0, api.ErrForm}, {"::1", "", 0, api.ErrForm}, {"[::1]x", "", 0, api.ErrForm}, {"[::1]:", "", 0, api.ErrForm},
		{"a[::1]", "", 0, api.ErrForm}, {"[g]", "", 0, api.ErrForm}, {"[::1]]", "", 0, api.ErrForm}, {"[[1]]", "", 0, api.ErrForm}, {"%", "", 0, api.ErrForm}, {"%4", "", 0, api.ErrForm}, {"a%4:80", "", 0, api.ErrForm}, {"%4g", "", 0, api.ErrForm}, {"%%41", "", 0, api.ErrForm}, {"é", "", 0, api.ErrForm},
		{"a:65536", "", 0, api.ErrNum}, {"a:99999999999999999999999", "", 0, api.ErrNum}, {"[::1]:70000", "", 0, api.ErrNum}, {"a b:70000", "", 0, api.ErrForm}, {"a:٣", "", 0, api.ErrForm}, {" a", "", 0, api.ErrForm}, {"[1]:8:9", "", 0, api.ErrForm},
	} {
		if name, port, e := Parse(c.s); name != c.name || port != c.port || e != c.e {
			t.Errorf("%q: %q %d %d", c.s, name, port, e)
		}
	}
}

// P11.3
func TestText(t *testing.T) {
	if Text("A.b", 80) != "a.b" || Text("A", 81) != "a:81" || Text("", 0) != ":0" || Text("[::A]", 8080) != "[::a]:8080" || Text("a", -1) != "a:-1" {
		t.Error("text")
	}
	for s, want := range map[string]string{"Example.COM:80": "example.com", "a": "a", "A:081": "a:81", "[::F]:0080": "[::f]", "a:00": "a:0", "%4A": "%4a"} {
		if got, ok := Key(s); got != want || !ok {
			t.Errorf("%q: %q", s, got)
		}
	}
	for _, s := range []string{"", "a b", "a:70000", "a:"} {
		if got, ok := Key(s); got != "" || ok {
			t.Errorf("%q: %q", s, got)
		}
	}
}

// P11.4
func TestKeyOfKey(t *testing.T) {
	r := rand.New(rand.NewSource(11))
	for range 50000 {
		b := make([]byte, r.Intn(7))
		for i := range b {
			b[i] = "aB8:0[].%"[r.Intn(9)]
		}
		k, ok := Key(string(b))
		if again, is := Key(k); ok && (again != k || !is) {
			t.Fatalf("%q: %q %q", b, k, again)
		}
	}
}
