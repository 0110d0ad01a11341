package cursor

import (
	"math/rand"
	"testing"

	"abutment/octet"
)

// P4.1
func TestTake(t *testing.T) {
	c := New(" \t a-b=c,d;e")
	if c.Left() != " \t a-b=c,d;e" || c.Done() || c.Byte('a') || c.Token() != "" {
		t.Error("beginning")
	}
	if n := c.Skip(); n != 3 || c.Skip() != 0 {
		t.Error(n)
	}
	if s := c.Token(); s != "a-b" || c.Left() != "=c,d;e" {
		t.Error(s)
	}
	if c.Byte('c') || !c.Byte('=') || c.Byte('=') {
		t.Error("byte")
	}
	if s := c.Until(';'); s != "c,d" || c.Left() != ";e" || c.Until(';') != "" {
		t.Error(s)
	}
	if s := c.Until('x'); s != ";e" || !c.Done() || c.Left() != "" || c.Until('x') != "" || c.Byte(0) {
		t.Error(s)
	}
	if d := New("\n \xff"); d.Skip() != 0 || d.Token() != "" || d.Until(0xff) != "\n " || !d.Byte(0xff) || !d.Done() {
		t.Error("octets")
	}
}

// P4.1: a nil one, and a plain one.
func TestNothing(t *testing.T) {
	for _, c := range []*Cursor{nil, {}, New("")} {
		s, ok := c.Quoted()
		if c.Left() != "" || !c.Done() || c.Byte(0) || c.Skip() != 0 || c.Token() != "" || c.Until('a') != "" || s != "" || ok {
			t.Error("nothing")
		}
	}
}

// P4.2
func TestQuoted(t *testing.T) {
	for _, c := range []struct {
		in, plain string
		ok        bool
		left      string
	}{
		{`""`, "", true, ""}, {`"a"x`, "a", true, "x"}, {`"a\"b"x`, `a"b`, true, "x"}, {`"\\"`, `\`, true, ""}, {`"\a\b" "c"`, "ab", true, ` "c"`}, {"\"\\\t \xff\"", "\t \xff", true, ""},
		{`"\\\""`, `\"`, true, ""}, {`"(,)"`, "(,)", true, ""},
		{``, "", false, ""}, {`a""`, "", false, `a""`}, {` ""`, "", false, ` ""`}, {`"`, "", false, `"`}, {`"a`, "", false, `"a`}, {`"a\`, "", false, `"a\`}, {`"a\"`, "", false, `"a\"`},
		{"\"a\n\"", "", false, "\"a\n\""}, {"\"a\\\n\"", "", false, "\"a\\\n\""}, {"\"\x7f\"", "", false, "\"\x7f\""}, {"\"\\\x00\"", "", false, "\"\\\x00\""},
	} {
		d := New(c.in)
		if s, ok := d.Quoted(); s != c.plain || ok != c.ok || d.Left() != c.left {
			t.Errorf("%q: %q %v %q", c.in, s, ok, d.Left())
		}
	}
}

// P4.2
func TestQuote(t *testing.T) {
	for in, want := range map[string]string{
		"a": "a", "a-b": "a-b", "": `""`, "a b": `"a b"`, `a"b`: `"a\"b"`, `\`: `"\\"`, `""`: `"\"\""`, "é": `"é"`, "\xff\"": "\"\xff\\\"\"", "a\tb": "\"a\tb\"", "a=b": `"a=b"`,
	} {
		if got, ok := Quote(in); got != want || !ok {
			t.Errorf("%q: %q %v", in, got, ok)
		}
	}
	for _, in := range []string{"\n", "a\x00", "\x7f", "a\r"} {
		if got, ok := Quote(in); got != "" || ok {
			t.Errorf("%q: %q %v", in, got, ok)
		}
	}
}

// P4.3
func TestThereAndBack(t *testing.T) {
	r := rand.New(rand.NewSource(4))
	for range 20000 {
		b := make([]byte, r.Intn(7))
		for i := range b {
			b[i] = "ab \t\"\\\\\"=\xc3\n"[r.Intn(11)]
		}
		s := string(b)
		q, ok := Quote(s)
		if ok != octet.Value(s) {
			t.Fatalf("%q: %v", s, ok)
		}
		if ok {
			c := New(q + ";z")
			back := c.Token()
			if !octet.Token(s) {
				back, ok = c.Quoted()
			}
			if back != s || !ok || c.Left() != ";z" {
				t.Fatalf("%q: %q %q", s, q, back)
			}
		}
		c := New(s)
		taken := c.Until('"')
		left := c.Left()
		c.Quoted()
		if taken+left != s || c.Left() != left[len(left)-len(c.Left()):] {
			t.Fatalf("%q: %q %q", s, taken, left)
		}
	}
}
