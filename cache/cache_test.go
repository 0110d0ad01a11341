package cache

import (
	"math/rand"
	"slices"
	"testing"

	"abutment/api"
	"abutment/octet"
)

// P21.1
func TestParse(t *testing.T) {
	for _, c := range []struct {
		s    string
		want []api.Directive
	}{
		{"", nil}, {" , ", nil}, {"No-Cache", []api.Directive{{Name: "no-cache"}}}, {"no-cache, Max-Age=60", []api.Directive{{Name: "no-cache"}, {Name: "max-age", Value: "60", Set: true}}}, {`Private="A, B", x=""`, []api.Directive{{Name: "private", Value: "A, B", Set: true}, {Name: "x", Set: true}}},
		{`a="\""`, []api.Directive{{Name: "a", Value: `"`, Set: true}}}, {"a=B,a=C", []api.Directive{{Name: "a", Value: "B", Set: true}, {Name: "a", Value: "C", Set: true}}},
	} {
		if got, ok := Parse(c.s); !slices.Equal(got, c.want) || !ok {
			t.Errorf("%q: %v %v", c.s, got, ok)
		}
	}
	for _, s := range []string{"a b", "a=", "a= b", "a =b", "=b", "a=b c", `a="b"c`, `a="b`, `"a"`, "a;b", "x, a=", "a==b", "(c)", `a=b"c"`, "a=(b)", "a\n", `a="` + "\n" + `"`, "é", `x, "`} {
		if got, ok := Parse(s); len(got) != 0 || ok {
			t.Errorf("%q: %v %v", s, got, ok)
		}
	}
}

// P21.1, P21.3
func TestText(t *testing.T) {
	for _, c := range []struct {
		l    []api.Directive
		want string
	}{
		{nil, ""}, {[]api.Directive{{Name: "a"}, {Name: "B", Value: "c d", Set: true}, {Name: "e", Set: true}, {Name: "f", Value: "g", Set: true}}, `a, B="c d", e="", f=g`},
	} {
		if got, ok := Text(c.l...); got != c.want || !ok {
			t.Errorf("%q %v", got, ok)
		}
	}
	for _, d := range []api.Directive{{}, {Name: "a b"}, {Name: "a", Value: "b"}, {Name: "a", Value: "\n", Set: true}, {Name: "a="}, {Name: "é", Set: true}} {
		if got, ok := Text(api.Directive{Name: "x"}, d); got != "" || ok {
			t.Errorf("%v: %q", d, got)
		}
	}
	r := rand.New(rand.NewSource(16))
	for range 5000 {
		var l []api.Directive
		for range r.Intn(4) {
			l = append(l, api.Directive{Name: []string{"a", "b-c", "A", "a b"}[min(3, r.Intn(12)/3)], Value: []string{"", "1", "x, y", "\"\\", "\xff"}[r.Intn(5)], Set: r.Intn(3) > 0})
		}
		s, ok := Text(l...)
		if ok {
			for i := range l {
				l[i].Name = octet.Lower(l[i].Name)
			}
			if back, is := Parse(s); !slices.Equal(back, l) || !is {
				t.Fatalf("%v: %q %v", l, s, back)
			}
		}
	}
}

func control(values ...string) []api.Field {
	l := []api.Field{{Name: "Pragma", Value: "x"}}
	for _, v := range values {
		l = append(l, api.Field{Name: "cache-control", Value: v})
	}
	return l
}

// P21.2
func TestControl(t *testing.T) {
	l := control("no-cache, Max-Age=60", "Private")
	if got := Control(l); !slices.Equal(got, []api.Directive{{Name: "no-cache"}, {Name: "max-age", Value: "60", Set: true}, {Name: "private"}}) {
		t.Error(got)
	}
	for name, want := range map[string]bool{"no-cache": true, "NO-Cache": true, "max-age": true, "private": true, "x": false, "": false} {
		if Has(l, name) != want {
			t.Error(name)
		}
	}
	if bad := control("no-cache", "a b"); len(Control(bad)) != 0 || Has(bad, "no-cache") || len(Control(nil)) != 0 {
		t.Error("bad")
	}
}

// P21.2
func TestAge(t *testing.T) {
	for _, c := range []struct {
		values []string
		n      int
		ok     bool
	}{
		{nil, 0, false}, {[]string{"no-cache"}, 0, false}, {[]string{"max-age=60"}, 60, true}, {[]string{"MAX-AGE=\"60\""}, 60, true}, {[]string{"max-age=0"}, 0, true}, {[]string{"max-age=2147483647"}, api.MaxLength, true}, {[]string{"max-age=2147483648"}, api.MaxLength, true}, {[]string{"max-age=99999999999999999999999"}, api.MaxLength, true},
		{[]string{"max-age=1", "max-age=2"}, 1, true}, {[]string{"max-age", "max-age=2"}, 0, false}, {[]string{"max-age=x"}, 0, false}, {[]string{"max-age=-1"}, 0, false}, {[]string{"max-age=\"\""}, 0, false}, {[]string{"max-age=5, a b"}, 0, false}, {[]string{"s-maxage=5"}, 0, false},
	} {
		if n, ok := Age(control(c.values...)); n != c.n || ok != c.ok {
			t.Errorf("%q: %d %v", c.values, n, ok)
		}
	}
}

// P21.2
func TestPragma(t *testing.T) {
	for v, want := range map[string]bool{"no-cache": true, "x, No-Cache": true, "": false, "no-cache=x": false, `no-cache, "`: false, "no-store": false} {
		if Pragma([]api.Field{{Name: "A", Value: "no-cache"}, {Name: "PRAGMA", Value: "y"}, {Name: "Pragma", Value: v}}) != want {
			t.Errorf("%q", v)
		}
	}
	if Pragma(nil) {
		t.Error("none")
	}
}
