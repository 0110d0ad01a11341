package lists

import (
	"math/rand"
	"slices"
	"testing"
)

// P7.1
func TestSplit(t *testing.T) {
	for _, c := range []struct {
		in   string
		want []string
	}{
		{"", nil}, {" ", nil}, {",", nil}, {" , ,\t", nil}, {"a", []string{"a"}}, {" a , b\t,c ", []string{"a", "b", "c"}}, {"a,,b,", []string{"a", "b"}}, {"a b", []string{"a b"}},
		{`a, "b,c" (d,e),,f`, []string{"a", `"b,c" (d,e)`, "f"}}, {`"a,b"`, []string{`"a,b"`}}, {`"a\",b",c`, []string{`"a\",b"`, "c"}}, {`"a\\",b`, []string{`"a\\"`, "b"}}, {`""`, []string{`""`}}, {`"",()`, []string{`""`, "()"}},
		{"(a,(b,c),d),e", []string{"(a,(b,c),d)", "e"}}, {`("),a`, []string{`(")`, "a"}}, {`"(",a`, []string{`"("`, "a"}}, {`")",a`, []string{`")"`, "a"}}, {`(a\),b),c`, []string{`(a\),b)`, "c"}}, {`(\(),a`, []string{`(\()`, "a"}},
		{"),a", []string{")", "a"}}, {")(a,b)", []string{")(a,b)"}}, {`a\,b`, []string{`a\`, "b"}}, {`\"a,b"`, []string{`\"a,b"`}}, {`a"b,c"d, e`, []string{`a"b,c"d`, "e"}}, {`(a)(b),c`, []string{"(a)(b)", "c"}}, {"\xff,\xfe", []string{"\xff", "\xfe"}}, {`\(a,b)`, []string{`\(a,b)`}},
		{"a\n,b", []string{"a\n", "b"}}, {`(\\),a`, []string{`(\\)`, "a"}},
	} {
		if got, ok := Split(c.in); !slices.Equal(got, c.want) || !ok {
			t.Errorf("%q: %q %v", c.in, got, ok)
		}
	}
}

// P7.1: what is closed in does not end.
func TestOpen(t *testing.T) {
	for _, s := range []string{`"`, `a,"b`, `a,"b,c`, `"a\"`, `"a\`, "(", "a,(b", "(a(b)", `(a\)`, `(a\`, `a"b"c"`, `(")"`, `"a" "`, "(()", `(",),"`} {
		if got, ok := Split(s); len(got) != 0 || ok {
			t.Errorf("%q: %q %v", s, got, ok)
		}
		if Has(s, "a") || Has(s, "b") {
			t.Errorf("%q", s)
		}
	}
}

// P7.2
func TestHas(t *testing.T) {
	for _, c := range []struct {
		s, word string
		want    bool
	}{
		{"Close, b", "close", true}, {"a,b", "B", true}, {"a b", "a", false}, {"", "", false}, {",", "", false}, {"a", "", false}, {"close;x", "close", false}, {`"a"`, "a", false}, {`"a,b"`, "b", false}, {"a, \"b", "a", false},
		{"a,b,c", "c", true}, {"aa", "a", false}, {"é", "É", false},
	} {
		if Has(c.s, c.word) != c.want {
			t.Errorf("%q %q", c.s, c.word)
		}
	}
}

// P7.2
func TestJoin(t *testing.T) {
	if Join() != "" || Join("a") != "a" || Join("a", "b", "") != "a, b, " || Join("", "") != ", " {
		t.Error("join")
	}
}

// P7.3
func TestAgain(t *testing.T) {
	r := rand.New(rand.NewSource(7))
	for range 20000 {
		b := make([]byte, r.Intn(10))
		for i := range b {
			b[i] = `a ,,"()\`[r.Intn(8)]
		}
		l, ok := Split(string(b))
		m, again := Split(Join(l...))
		if ok && (!slices.Equal(l, m) || !again) || !ok && l != nil {
			t.Fatalf("%q: %q %q", b, l, m)
		}
		for _, x := range l {
			if x == "" || !Has(string(b), x) {
				t.Fatalf("%q: %q", b, x)
			}
		}
	}
}
