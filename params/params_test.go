package params

import (
	"math/rand"
	"slices"
	"testing"

	"abutment/api"
	"abutment/octet"
)

// P8.1
func TestParse(t *testing.T) {
	for _, c := range []struct {
		in, name string
		l        []api.Param
	}{
		{"gzip", "gzip", nil}, {"GZIP ; Q=\"a b\";x", "gzip", []api.Param{{Name: "q", Value: "a b"}, {Name: "x"}}}, {"a;b=C", "a", []api.Param{{Name: "b", Value: "C"}}}, {"a\t;\tB \t= \tc", "a", []api.Param{{Name: "b", Value: "c"}}},
		{`a;b=""`, "a", []api.Param{{Name: "b"}}}, {`a;b="\"";b=2`, "a", []api.Param{{Name: "b", Value: `"`}, {Name: "b", Value: "2"}}}, {"a;b ;c", "a", []api.Param{{Name: "b"}, {Name: "c"}}}, {"a;b=\"\xff\"", "a", []api.Param{{Name: "b", Value: "\xff"}}},
		{`a;b="c;d=e"`, "a", []api.Param{{Name: "b", Value: "c;d=e"}}},
	} {
		if name, l, e := Parse(c.in); name != c.name || !slices.Equal(l, c.l) || e != api.OK {
			t.Errorf("%q: %q %q %d", c.in, name, l, e)
		}
	}
	for _, s := range []string{
		" ", " a", "a ", "a b", "a;", "a; ", "a;;b", "a;b ", "a;b\t", "a;b=", "a;b= ", "a;b=c ", "a;b=c d", `a;b="c"d`, `a;b="c`, `a;b="c" `, "a;=c", ";b", "=", "a=b", "a;b==c", `"a"`, "a,b", "a;b=c,d", "a;\"b\"", "a\n", "a;b=\"\n\"", "é",
	} {
		if name, l, e := Parse(s); name != "" || len(l) != 0 || e != api.ErrForm {
			t.Errorf("%q: %q %q %d", s, name, l, e)
		}
	}
	if name, l, e := Parse(""); name != "" || len(l) != 0 || e != api.ErrEnd {
		t.Error(name, l, e)
	}
}

// P8.2
func TestPrint(t *testing.T) {
	for _, c := range []struct {
		name, want string
		l          []api.Param
	}{
		{"a", "a", nil}, {"A", "A;B;c=d;e=\"f g\"", []api.Param{{Name: "B"}, {Name: "c", Value: "d"}, {Name: "e", Value: "f g"}}}, {"a", `a;b="\"\\"`, []api.Param{{Name: "b", Value: `"\`}}},
	} {
		if got, ok := Print(c.name, c.l...); got != c.want || !ok {
			t.Errorf("%q %v", got, ok)
		}
	}
	for _, c := range []struct {
		name string
		p    api.Param
	}{{"", api.Param{Name: "a"}}, {"a b", api.Param{Name: "a"}}, {"a", api.Param{}}, {"a", api.Param{Name: "b c"}}, {"a", api.Param{Name: "b", Value: "\n"}}, {"a", api.Param{Name: "b=", Value: "c"}}, {"é", api.Param{Name: "b"}}} {
		if got, ok := Print(c.name, api.Param{Name: "x", Value: "y"}, c.p); got != "" || ok {
			t.Errorf("%q: %q", c, got)
		}
	}
	if got, ok := Print(""); got != "" || ok {
		t.Error(got)
	}
}

// P8.3
func TestThereAndBack(t *testing.T) {
	r := rand.New(rand.NewSource(10))
	text := func(signs string) string {
		b := make([]byte, r.Intn(4))
		for i := range b {
			b[i] = signs[r.Intn(len(signs))]
		}
		return string(b)
	}
	for range 20000 {
		name := text("ab-1;")
		l := make([]api.Param, r.Intn(3))
		for i := range l {
			l[i] = api.Param{Name: text("xy "), Value: text("aB \"\\\t;=\n")}
		}
		kept := slices.Clone(l)
		s, ok := Print(name, l...)
		back, m, e := Parse(s)
		if ok && (back != name || !slices.Equal(l, m) || e != api.OK) || !slices.Equal(l, kept) {
			t.Fatalf("%q %q: %q %q %q", name, l, s, back, m)
		}
		right := octet.Token(name)
		for _, p := range l {
			right = right && octet.Token(p.Name) && octet.Value(p.Value)
		}
		if ok != right {
			t.Fatalf("%q %q: %v", name, l, ok)
		}
	}
}
