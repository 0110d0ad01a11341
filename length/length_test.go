package length

import (
	"math"
	"slices"
	"testing"

	"abutment/api"
)

func fields(values ...string) []api.Field {
	l := []api.Field{{Name: "A", Value: "9"}}
	for i, v := range values {
		l = append(l, api.Field{Name: []string{"Content-Length", "content-LENGTH"}[i%2], Value: v})
	}
	return append(l, api.Field{Name: "B", Value: "8"})
}

// P18.1, P18.3
func TestOf(t *testing.T) {
	for _, c := range []struct {
		values []string
		n      int
		has    bool
		e      api.Errno
	}{
		{nil, 0, false, api.OK}, {[]string{"5"}, 5, true, api.OK}, {[]string{"0"}, 0, true, api.OK}, {[]string{"5, 005"}, 5, true, api.OK}, {[]string{"5", "5"}, 5, true, api.OK}, {[]string{" 5\t,\t5 "}, 5, true, api.OK}, {[]string{"2147483647"}, api.MaxLength, true, api.OK}, {[]string{"0, 00", "0"}, 0, true, api.OK},
		{[]string{"5", "6"}, 0, false, api.ErrFrame}, {[]string{"5, 6"}, 0, false, api.ErrFrame}, {[]string{"0", "5"}, 0, false, api.ErrFrame}, {[]string{""}, 0, false, api.ErrFrame}, {[]string{"5,"}, 0, false, api.ErrFrame}, {[]string{",5"}, 0, false, api.ErrFrame}, {[]string{"5,,5"}, 0, false, api.ErrFrame},
		{[]string{"5", ""}, 0, false, api.ErrFrame}, {[]string{"2147483648"}, 0, false, api.ErrFrame}, {[]string{"-1"}, 0, false, api.ErrFrame}, {[]string{"+1"}, 0, false, api.ErrFrame}, {[]string{"5 5"}, 0, false, api.ErrFrame}, {[]string{"0x5"}, 0, false, api.ErrFrame}, {[]string{"a"}, 0, false, api.ErrFrame}, {[]string{`"5"`}, 0, false, api.ErrFrame}, {[]string{"5", "x"}, 0, false, api.ErrFrame}, {[]string{"x", "5"}, 0, false, api.ErrFrame},
	} {
		if n, has, e := Of(fields(c.values...)); n != c.n || has != c.has || e != c.e {
			t.Errorf("%q: %d %v %d", c.values, n, has, e)
		}
	}
}

// P18.2, P18.3
func TestSet(t *testing.T) {
	for _, n := range []int{0, 7, api.MaxLength} {
		l := fields("5", "6")
		got := Set(l, n)
		if m, has, e := Of(got); m != n || !has || e != api.OK || len(got) != 3 || got[0].Name != "A" || got[1].Name != "B" || got[2].Name != "Content-Length" {
			t.Error(n, got)
		}
		if !slices.Equal(l, fields("5", "6")) {
			t.Error("changed")
		}
	}
	if got := Set(nil, math.MinInt); !slices.Equal(got, []api.Field{{Name: "Content-Length", Value: "-9223372036854775808"}}) {
		t.Error(got)
	}
}
