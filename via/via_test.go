package via

import (
	"math/rand"
	"slices"
	"testing"

	"abutment/api"
)

// P20.1, P20.3
func TestParse(t *testing.T) {
	for s, want := range map[string]api.Hop{
		"1.0 a": {Version: "1.0", By: "a"}, "HTTP/1.1 b (c, d)": {Version: "HTTP/1.1", By: "b", Comment: "(c, d)"}, "1 \t a.b:80\t(x)": {Version: "1", By: "a.b:80", Comment: "(x)"}, "1.1 [::1]:80 ((a)(b))": {Version: "1.1", By: "[::1]:80", Comment: "((a)(b))"},
		"1.1 ^`|": {Version: "1.1", By: "^`|"}, "1.1 (a)": {Version: "1.1", By: "(a)"}, `1.1 a (\)")`: {Version: "1.1", By: "a", Comment: `(\)")`}, "1.1 a ()": {Version: "1.1", By: "a", Comment: "()"}, "1.1 a,b": {Version: "1.1", By: "a,b"}, `1 a (\()`: {Version: "1", By: "a", Comment: `(\()`},
	} {
		h, e := Parse(s)
		if h != want || e != api.OK {
			t.Errorf("%q: %q %d", s, h, e)
		}
		if again, e := Parse(Text(h)); again != h || e != api.OK {
			t.Errorf("%q: %q %d", Text(h), again, e)
		}
	}
	for _, s := range []string{
		" ", "1.0", "1.0 ", " 1.0 a", "1.0 a ", "1.0 a\t", "/1.0 a", "HTTP/ a", "HTTP/1/1 a", "1.0 a b", "1.0 a (b", "1.0 a (b) ", "1.0 a (b)c", "1.0 a (b)(c)", "1.0 a b(c)", "1.0 a:b", "1.0 a/b", "1.0 a:70000", "1:0 a", `1.0 a (b\)`, `1.0 "a"`, "1.0 a )", "1.0 a (b))", "1.0/a", "1.0\na", "HTTP /1.0 a", `1.0 a (\`, "1.0 a \\(", "1.0 é", "1.0[::1]", "1.0(a)",
	} {
		if h, e := Parse(s); h != (api.Hop{}) || e != api.ErrForm {
			t.Errorf("%q: %q %d", s, h, e)
		}
	}
	if h, e := Parse(""); h != (api.Hop{}) || e != api.ErrEnd {
		t.Error(h, e)
	}
	if Text(api.Hop{}) != " " || Text(api.Hop{Version: "1", By: "b", Comment: "c"}) != "1 b c" {
		t.Error("text")
	}
}

func fields(values ...string) []api.Field {
	l := []api.Field{{Name: "X", Value: "1.0 x"}}
	for _, v := range values {
		l = append(l, api.Field{Name: "via", Value: v})
	}
	return l
}

// P20.2
func TestAll(t *testing.T) {
	for _, c := range []struct {
		values []string
		want   []api.Hop
	}{
		{nil, nil}, {[]string{"1.0 a, HTTP/1.1 b (c, d)"}, []api.Hop{{Version: "1.0", By: "a"}, {Version: "HTTP/1.1", By: "b", Comment: "(c, d)"}}}, {[]string{"1 a", "2 b"}, []api.Hop{{Version: "1", By: "a"}, {Version: "2", By: "b"}}}, {[]string{"1 a, x, 2 b c, 3 d"}, []api.Hop{{Version: "1", By: "a"}, {Version: "3", By: "d"}}},
		{[]string{"1 a", "2 b (c"}, nil}, {[]string{"1 a", "2 b (c", "d)"}, []api.Hop{{Version: "1", By: "a"}, {Version: "2", By: "b", Comment: "(c, d)"}}}, {[]string{""}, nil},
	} {
		if got := All(fields(c.values...)); !slices.Equal(got, c.want) {
			t.Errorf("%q: %q", c.values, got)
		}
	}
}

// P20.2
func TestLoops(t *testing.T) {
	l := fields("1.0 Abc, 1.1 b:80", "1.1 d (e)")
	for name, want := range map[string]bool{"abc": true, "ABC": true, "b:80": true, "d": true, "b": false, "e": false, "x": false, "": false, "1.0": false} {
		if Loops(l, name) != want {
			t.Error(name)
		}
	}
	if Loops(fields("1.0 a", "\""), "a") || Loops(nil, "") {
		t.Error("open")
	}
}

// P20.2, P20.3
func TestAppend(t *testing.T) {
	for minor, want := range map[int]string{-1: "1.0 n", 0: "1.0 n", 1: "1.1 n", 9: "1.1 n"} {
		l := fields("1.0 a")
		got := Append(l, minor, "n")
		if !slices.Equal(got, append(slices.Clone(l), api.Field{Name: "Via", Value: want})) || !slices.Equal(l, fields("1.0 a")) {
			t.Errorf("%d: %q", minor, got)
		}
	}
	r := rand.New(rand.NewSource(15))
	for range 2000 {
		values := []string{}
		for range r.Intn(3) {
			values = append(values, []string{"1.0 a", "1 b (c, \"d)", "x y z", "\"q,\"", "", "1 a (b\\))"}[r.Intn(6)])
		}
		if !Loops(Append(fields(values...), r.Intn(2), "N-1"), "n-1") {
			t.Fatalf("%q", values)
		}
	}
}
