package field

import (
	"math"
	"math/rand"
	"slices"
	"testing"

	"abutment/api"
)

// P9.1
func TestParse(t *testing.T) {
	for _, c := range []struct {
		line, name, value string
		e                 api.Errno
	}{
		{"Host:  a ", "Host", "a", api.OK}, {"A:", "A", "", api.OK}, {"A: \t", "A", "", api.OK}, {"A:b:c", "A", "b:c", api.OK}, {"x-a:\t\"q\"\t", "x-a", "\"q\"", api.OK}, {"A: \xff b", "A", "\xff b", api.OK}, {"A::", "A", ":", api.OK},
		{"", "", "", api.ErrForm}, {"abc", "", "", api.ErrForm}, {"a b\n", "", "", api.ErrForm}, {":", "", "", api.ErrName}, {": a", "", "", api.ErrName}, {"Host : a", "", "", api.ErrName}, {" Host: a", "", "", api.ErrName}, {"a\x00:\n", "", "", api.ErrName},
		{"A: b\n", "", "", api.ErrValue}, {"A: \x00", "", "", api.ErrValue}, {"A: \x7f", "", "", api.ErrValue}, {"A:\r", "", "", api.ErrValue}, {"é: a", "", "", api.ErrName},
	} {
		if f, e := Parse(c.line); f != (api.Field{Name: c.name, Value: c.value}) || e != c.e {
			t.Errorf("%q: %q %d", c.line, f, e)
		}
	}
}

// P9.1
func TestLine(t *testing.T) {
	for f, want := range map[api.Field]string{{Name: "A", Value: "b"}: "A: b", {Name: "A"}: "A:", {}: ":", {Name: "A", Value: " "}: "A:  "} {
		if got := Line(f); got != want {
			t.Errorf("%q", got)
		}
	}
}

// P9.1
func TestRight(t *testing.T) {
	for _, f := range []api.Field{{Name: "A", Value: "b c"}, {Name: "A"}, {Name: "!", Value: "\xff"}, {Name: "A", Value: "b\tc"}} {
		if !Right(f) {
			t.Errorf("%q", f)
		}
	}
	for _, f := range []api.Field{{}, {Name: "", Value: "a"}, {Name: "A "}, {Name: "A:"}, {Name: "A", Value: " b"}, {Name: "A", Value: "b "}, {Name: "A", Value: "\t"}, {Name: "A", Value: "b\n"}, {Name: "A", Value: "\x7f"}, {Name: "é"}} {
		if Right(f) {
			t.Errorf("%q", f)
		}
	}
}

// P9.2
func TestUnfold(t *testing.T) {
	for _, c := range []struct {
		fold        int
		lines, want []string
		e           api.Errno
	}{
		{0, nil, nil, api.OK}, {0, []string{"a", "", "b"}, []string{"a", "", "b"}, api.OK}, {0, []string{"a", " b"}, nil, api.ErrForm}, {0, []string{"a", "\tb"}, nil, api.ErrForm}, {0, []string{" a"}, nil, api.ErrForm},
		{1, []string{" a"}, nil, api.ErrForm}, {1, []string{"\t"}, nil, api.ErrForm}, {1, []string{"a", "\tb"}, []string{"a b"}, api.OK}, {-1, []string{"a", " b"}, []string{"a b"}, api.OK}, {math.MaxInt, []string{"a", " b"}, []string{"a b"}, api.OK},
		{1, []string{"a \t", "  b ", "\t c\t", "d"}, []string{"a b c", "d"}, api.OK}, {1, []string{"a", " "}, []string{"a "}, api.OK}, {1, []string{"a", " ", " b"}, []string{"a b"}, api.OK}, {1, []string{"", " x", " y"}, []string{" x y"}, api.OK},
		{1, []string{"a", "\nb"}, []string{"a", "\nb"}, api.OK}, {1, []string{"a ", "b "}, []string{"a ", "b "}, api.OK}, {1, []string{"aQ", "Qb", " Qc"}, []string{"aQ", "Qb Qc"}, api.OK}, {1, []string{"a", " b", "c", " d"}, []string{"a b", "c d"}, api.OK},
	} {
		kept := slices.Clone(c.lines)
		if got, e := Unfold(c.fold, c.lines...); !slices.Equal(got, c.want) || e != c.e {
			t.Errorf("%d %q: %q %d", c.fold, c.lines, got, e)
		}
		if !slices.Equal(kept, c.lines) {
			t.Errorf("changed: %q", c.lines)
		}
	}
}

// P9.3
func TestAll(t *testing.T) {
	for _, c := range []struct {
		fold  int
		lines []string
		want  []api.Field
		e     api.Errno
	}{
		{0, nil, nil, api.OK}, {0, []string{"A: 1", "b:2"}, []api.Field{{Name: "A", Value: "1"}, {Name: "b", Value: "2"}}, api.OK}, {1, []string{"A: 1", " 2 ", "B:"}, []api.Field{{Name: "A", Value: "1 2"}, {Name: "B"}}, api.OK},
		{0, []string{"bad name: 1", " x"}, nil, api.ErrForm}, {0, []string{"A: 1", "b c: 2", "d"}, nil, api.ErrName}, {0, []string{"A: 1", "d", "b c: 2"}, nil, api.ErrForm}, {1, []string{"A: 1", " \x00"}, nil, api.ErrValue}, {1, []string{"A", " : 1"}, nil, api.ErrName}, {0, []string{""}, nil, api.ErrForm},
	} {
		if got, e := All(c.fold, c.lines...); !slices.Equal(got, c.want) || e != c.e {
			t.Errorf("%d %q: %q %d", c.fold, c.lines, got, e)
		}
	}
}

// P9.4
func TestThereAndBack(t *testing.T) {
	r := rand.New(rand.NewSource(8))
	text := func() string {
		b := make([]byte, r.Intn(5))
		for i := range b {
			b[i] = "ab \t:\xc3\n"[r.Intn(7)]
		}
		return string(b)
	}
	for range 20000 {
		f := api.Field{Name: text(), Value: text()}
		got, e := Parse(Line(f))
		if Right(f) != (e == api.OK && got == f) {
			t.Fatalf("%q: %q %d", f, got, e)
		}
		lines := []string{"a" + text(), "b" + text(), "c" + text()}
		l, e := All(0, lines...)
		m, g := All(1, lines...)
		if !slices.Equal(l, m) || e != g {
			t.Fatalf("%q", lines)
		}
	}
}
