package octet

import (
	"math/rand"
	"strings"
	"testing"
)

const letters = "abcdefghijklmnopqrstuvwxyzABCDEFGHIJKLMNOPQRSTUVWXYZ0123456789"

// P1.1: each octet by itself, alone and within a text.
func TestEachOctet(t *testing.T) {
	for n := 0; n < 256; n++ {
		c := byte(n)
		s := string([]byte{c})
		tchar := strings.IndexByte(letters+"!#$%&'*+-.^_`|~", c) >= 0
		value := c == 9 || c == 32 || c >= 33 && c <= 126 || c >= 128
		visible := c >= 33 && c <= 126
		for _, x := range []string{s, "a" + s, s + "a", "a" + s + "b"} {
			if Tchar(c) != tchar || Token(x) != tchar || Value(x) != value || Visible(x) != visible {
				t.Errorf("octet %d in %q: %v %v %v %v", n, x, Tchar(c), Token(x), Value(x), Visible(x))
			}
		}
	}
}

// P1.1: empty texts, and texts of more than ASCII.
func TestTexts(t *testing.T) {
	if Token("") || Visible("") || !Value("") {
		t.Error("empty")
	}
	for _, s := range []string{"é", "\xff", "a\xffb", "\xef\xbf\xbd", "日本", "\xe2\x82"} {
		if Token(s) || Visible(s) || !Value(s) {
			t.Errorf("%q: %v %v %v", s, Token(s), Visible(s), Value(s))
		}
	}
	if Value("é\n") || Value("\xff\x7f") || Value("\x00") {
		t.Error("values")
	}
}

// P1.2
func TestLower(t *testing.T) {
	for n := 0; n < 256; n++ {
		want := byte(n)
		if n >= 'A' && n <= 'Z' {
			want += 32
		}
		if got := Lower(string([]byte{byte(n)})); got != string([]byte{want}) {
			t.Errorf("%d: %q", n, got)
		}
	}
	for in, want := range map[string]string{"": "", "ABC-xyz": "abc-xyz", "É\xffA\xc3": "É\xffa\xc3", "@[A`{Z": "@[a`{z", "\u212a": "\u212a"} {
		if got := Lower(in); got != want {
			t.Errorf("%q: %q", in, got)
		}
	}
}

// P1.2
func TestFold(t *testing.T) {
	yes := [][2]string{{"", ""}, {"Keep-Alive", "keep-alive"}, {"ABC", "abc"}, {"\xffA", "\xffa"}}
	no := [][2]string{{"a", ""}, {"a", "b"}, {"a", "aa"}, {"[", "{"}, {"@", "`"}, {"É", "é"}, {"k", "\u212a"}, {"\xff", "\xfe"}}
	for _, p := range yes {
		if !Fold(p[0], p[1]) || !Fold(p[1], p[0]) {
			t.Error(p)
		}
	}
	for _, p := range no {
		if Fold(p[0], p[1]) || Fold(p[1], p[0]) {
			t.Error(p)
		}
	}
}

// P1.2
func TestTrim(t *testing.T) {
	for in, want := range map[string]string{
		"": "", " ": "", "\t \t": "", " a\t": "a", "a": "a", " a b ": "a b", "\ta\t\tb\t ": "a\t\tb",
		"\na ": "\na", "a\r": "a\r", "  é  ": "é", "\xff\t": "\xff", " 日本 x ": "日本 x", "\v": "\v", "\u00a0": "\u00a0", " é": "é",
	} {
		if got := Trim(in); got != want {
			t.Errorf("%q: %q", in, got)
		}
	}
}

// P1.3
func TestWhatFollows(t *testing.T) {
	r := rand.New(rand.NewSource(1))
	text := func() string {
		b := make([]byte, r.Intn(6))
		for i := range b {
			b[i] = " \taA-Zz\xc3\xa9\x00"[r.Intn(10)]
		}
		return string(b)
	}
	for range 20000 {
		a, b, c := text(), text(), text()
		l, m := Lower(a), Trim(a)
		if Lower(l) != l || len(l) != len(a) || Fold(a, b) != Fold(b, a) || Fold(a, b) && Fold(b, c) && !Fold(a, c) || !Fold(a, l) {
			t.Fatalf("%q %q %q", a, b, c)
		}
		if Trim(m) != m || m != strings.Trim(a, " \t") {
			t.Fatalf("%q: %q", a, m)
		}
		if Token(a) && (m != a || !Visible(a) || !Value(a)) {
			t.Fatalf("%q", a)
		}
	}
}
