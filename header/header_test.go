package header

import (
	"slices"
	"testing"

	"abutment/api"
)

// fields makes fields of names and values in turn, with spare room that holds a mark.
func fields(s ...string) []api.Field {
	l := make([]api.Field, 0, len(s)/2+2)
	for i := 0; i+1 < len(s); i += 2 {
		l = append(l, api.Field{Name: s[i], Value: s[i+1]})
	}
	l[:len(l)+1][len(l)].Name = "spare"
	return l
}

func marked(l []api.Field) bool { return l[:len(l)+1][len(l)].Name == "spare" }

// P10.1
func TestLook(t *testing.T) {
	l := fields("A", "1", "B", "2", "a", "3", "C", "")
	for _, c := range []struct {
		name, first string
		all         []string
		combined    string
	}{{"A", "1", []string{"1", "3"}, "1, 3"}, {"a", "1", []string{"1", "3"}, "1, 3"}, {"b", "2", []string{"2"}, "2"}, {"c", "", []string{""}, ""}} {
		if got, ok := Get(l, c.name); got != c.first || !ok {
			t.Error(c.name, got, ok)
		}
		if got := All(l, c.name); !slices.Equal(got, c.all) || Count(l, c.name) != len(c.all) {
			t.Error(c.name, got)
		}
		if got, ok := Combined(l, c.name); got != c.combined || !ok {
			t.Error(c.name, got, ok)
		}
	}
	for _, name := range []string{"", "D", "AA", "A "} {
		one, ok := Get(l, name)
		two, is := Combined(l, name)
		if one != "" || ok || two != "" || is || len(All(l, name)) != 0 || Count(l, name) != 0 {
			t.Error(name)
		}
	}
	if got, ok := Combined(fields("a", "", "A", ""), "a"); got != ", " || !ok {
		t.Errorf("%q", got)
	}
}

// P10.2
func TestMake(t *testing.T) {
	l := fields("A", "1", "B", "2", "a", "3", "C", "4")
	for _, c := range []struct{ got, want []api.Field }{
		{Without(l), l}, {Without(l, "x"), l}, {Without(l, "a"), fields("B", "2", "C", "4")}, {Without(l, "c", "A", ""), fields("B", "2")}, {Without(l, "A", "b", "C"), nil}, {Without(nil, "a"), nil},
		{With(l, "a", "5"), fields("A", "1", "B", "2", "a", "3", "C", "4", "a", "5")}, {With(nil, "x", ""), fields("x", "")},
		{Set(l, "a", "9"), fields("A", "9", "B", "2", "C", "4")}, {Set(l, "c", ""), fields("A", "1", "B", "2", "a", "3", "C", "")}, {Set(l, "D", "5"), fields("A", "1", "B", "2", "a", "3", "C", "4", "D", "5")}, {Set(nil, "D", "5"), fields("D", "5")},
		{Set(fields("A", "1"), "a", "1"), fields("A", "1")},
	} {
		if !slices.Equal(c.got, c.want) {
			t.Errorf("%q, not %q", c.got, c.want)
		}
	}
	if !slices.Equal(l, fields("A", "1", "B", "2", "a", "3", "C", "4")) || !marked(l) {
		t.Error("changed", l)
	}
	a, b := With(l, "x", "1"), With(l, "y", "2")
	if a[4].Name != "x" || b[4].Name != "y" {
		t.Error("shared")
	}
}

// P10.2
func TestSame(t *testing.T) {
	if !Same(nil, fields()) || !Same(fields("A", "1"), fields("A", "1")) {
		t.Error("same")
	}
	for _, c := range [][2][]api.Field{{fields("A", "1"), fields("a", "1")}, {fields("A", "1"), fields("A", "2")}, {fields("A", "1"), nil}, {fields("A", "1", "B", "2"), fields("B", "2", "A", "1")}, {fields("A", "1"), fields("A", "1", "A", "1")}} {
		if Same(c[0], c[1]) || Same(c[1], c[0]) {
			t.Error(c)
		}
	}
}

// P10.3
func TestWhatFollows(t *testing.T) {
	l := fields("A", "1", "B", "2", "a", "3", "C", "4", "b", "5")
	for _, name := range []string{"a", "B", "c", "d"} {
		set := Set(l, name, "v")
		if got, ok := Get(set, name); got != "v" || !ok || Count(set, name) != 1 {
			t.Error(name, got)
		}
		if !Same(Without(set, name), Without(l, name)) || Count(Without(l, name), name) != 0 {
			t.Error(name)
		}
	}
}
