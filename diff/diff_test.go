package diff

import (
	"math/rand"
	"slices"
	"testing"

	"abutment/api"
)

// text is rows as one text.
func text(l []Row) string {
	s := ""
	for _, r := range l {
		s += string(" -+?"[min(3, uint(r.Sign))]) + r.Text
	}
	return s
}

func letters(s string) []string {
	var l []string
	for _, r := range s {
		l = append(l, string(r))
	}
	return l
}

// P51.1
func TestLines(t *testing.T) {
	for _, c := range [][3]string{{"", "", ""}, {"ab", "bc", "-a b+c"}, {"a", "b", "-a+b"}, {"abc", "abc", " a b c"}, {"", "ab", "+a+b"}, {"ab", "", "-a-b"}, {"ab", "ba", "-a b+a"}, {"abcabba", "cbabac", "-a-b c-a b+a b a+c"}, {"xa", "ax", "-x a+x"}, {"abc", "xbc", "-a+x b c"}, {"bc", "abc", "+a b c"}, {"ab", "aab", " a+a b"}, {"aab", "ab", " a-a b"}} {
		if got := text(Lines(letters(c[0]), letters(c[1]))); got != c[2] {
			t.Errorf("%q: %q", c, got)
		}
	}
}

// longest is the length of a longest common part, by trying all.
func longest(a, b []string) int {
	switch {
	case len(a) == 0 || len(b) == 0:
		return 0
	case a[0] == b[0]:
		return max(1+longest(a[1:], b[1:]), longest(a[1:], b), longest(a, b[1:]))
	}
	return max(longest(a[1:], b), longest(a, b[1:]))
}

// slow tells the same by the document's words.
func slow(a, b []string) []Row {
	switch {
	case len(a) == 0 && len(b) == 0:
		return nil
	case len(a) > 0 && len(b) > 0 && a[0] == b[0]:
		return append([]Row{{Same, a[0]}}, slow(a[1:], b[1:])...)
	case len(b) == 0 || len(a) > 0 && longest(a[1:], b) >= longest(a, b[1:]):
		return append([]Row{{Gone, a[0]}}, slow(a[1:], b)...)
	}
	return append([]Row{{New, b[0]}}, slow(a, b[1:])...)
}

// P51.1, P51.4
func TestWhatFollows(t *testing.T) {
	r := rand.New(rand.NewSource(18))
	some := func() []string {
		l := make([]string, r.Intn(6))
		for i := range l {
			l[i] = string(rune('a' + r.Intn(3)))
		}
		return l
	}
	for range 2000 {
		a, b := some(), some()
		l := Lines(a, b)
		if !slices.Equal(l, slow(a, b)) {
			t.Fatal(a, b, text(l))
		}
		to, ok := Apply(a, l)
		from, is := Apply(b, Turn(l))
		if !slices.Equal(to, b) || !ok || !slices.Equal(from, a) || !is {
			t.Fatal(a, b, to, from)
		}
		for _, row := range Lines(a, a) {
			if row.Sign != Same {
				t.Fatal(a)
			}
		}
	}
}

// P51.2
func TestApply(t *testing.T) {
	rows := []Row{{Same, "a"}, {Gone, "b"}, {New, "c"}}
	if got, ok := Apply([]string{"a", "b"}, rows); !slices.Equal(got, []string{"a", "c"}) || !ok {
		t.Error(got, ok)
	}
	for _, c := range []struct {
		a []string
		l []Row
	}{{[]string{"a"}, rows}, {[]string{"a", "b", "c"}, rows}, {[]string{"b", "a"}, rows}, {nil, rows}, {[]string{"a"}, nil}, {nil, []Row{{3, "a"}}}, {nil, []Row{{-1, "a"}}}, {[]string{"a"}, []Row{{Same, "a"}, {9, "a"}}}} {
		if got, ok := Apply(c.a, c.l); len(got) != 0 || ok {
			t.Error(c, got)
		}
	}
	if got, ok := Apply(nil, nil); len(got) != 0 || !ok {
		t.Error(got, ok)
	}
	if got := Turn([]Row{{Same, "a"}, {Gone, "b"}, {New, "c"}, {7, "d"}, {-1, "e"}}); !slices.Equal(got, []Row{{Same, "a"}, {New, "b"}, {Gone, "c"}, {7, "d"}, {-1, "e"}}) {
		t.Error(got)
	}
	Turn(rows)
	if rows[1].Sign != Gone {
		t.Error("changed")
	}
}

// P51.3
func TestHeads(t *testing.T) {
	a := api.Head{Method: "GET", Target: "/", Minor: 1, Fields: []api.Field{{Name: "host", Value: "a"}, {Name: "X", Value: "1"}, {Name: "x", Value: "2"}, {Name: "E"}}}
	b := api.Head{Method: "GET", Target: "/", Fields: []api.Field{{Name: "Host", Value: "a"}, {Name: "X", Value: "1"}, {Name: "E"}}}
	if got := Heads(a, b); !slices.Equal(got, []string{"- GET / HTTP/1.1", "+ GET / HTTP/1.0", "  Host: a", "- X: 1, 2", "+ X: 1", "  E:"}) {
		t.Errorf("%q", got)
	}
	if got := Heads(api.Head{Status: 200, Reason: "OK"}, api.Head{Status: 200, Reason: "OK"}); !slices.Equal(got, []string{"  HTTP/1.0 200 OK"}) {
		t.Errorf("%q", got)
	}
	if Same != 0 || Gone != 1 || New != 2 {
		t.Error("signs")
	}
}
