package chunk

import (
	"math"
	"slices"
	"strings"
	"testing"

	"abutment/api"
)

// P14.1
func TestParse(t *testing.T) {
	for s, want := range map[string]int{
		"0": 0, "1A;a=b": 26, "1a": 26, "7fffffff": api.MaxLength, "0000000000000000000000005": 5, "5 ; x": 5, "5\t;\tx\t=\t\"y;z\"": 5, "5;x;y=z;q=\"\"": 5, "abcdef": 0xabcdef, "ABCDEF": 0xabcdef, "00": 0, "123456": 0x123456, "789": 0x789, "5;a": 5,
	} {
		if n, e := Parse(s); n != want || e != api.OK {
			t.Errorf("%q: %d %d", s, n, e)
		}
	}
	for _, s := range []string{" ", " 5", "5 ", "5;", "5; ", "g", "5g", "5x", "0x5", "-5", ";a", "5;=", "5;a=", "5;a b", "5 a", "5=a", "5;a=\"b", "5,6", "x", "5;a\n", "\xff", "5\xff", "99999999999999999999;", "é"} {
		if n, e := Parse(s); n != 0 || e != api.ErrForm {
			t.Errorf("%q: %d %d", s, n, e)
		}
	}
	for _, s := range []string{"80000000", "fffffffffffffffffffffffffff", "80000000;a=b", "10000000000000000"} {
		if n, e := Parse(s); n != 0 || e != api.ErrNum {
			t.Errorf("%q: %d %d", s, n, e)
		}
	}
	if n, e := Parse(""); n != 0 || e != api.ErrEnd {
		t.Error(n, e)
	}
}

// P14.2, P14.3
func TestLine(t *testing.T) {
	for n, want := range map[int]string{0: "0\r\n", 26: "1a\r\n", api.MaxLength: "7fffffff\r\n", -1: "", math.MinInt: "", math.MaxInt: "7fffffffffffffff\r\n"} {
		got := Line(n)
		if got != want {
			t.Errorf("%d: %q", n, got)
		}
		if m, e := Parse(strings.TrimSuffix(got, "\r\n")); n >= 0 && n <= api.MaxLength && (m != n || e != api.OK) {
			t.Error(n, m, e)
		}
	}
}

// P14.2, P14.3
func TestSizes(t *testing.T) {
	for _, c := range []struct {
		n, each int
		want    []int
	}{
		{7, 3, []int{3, 3, 1}}, {6, 3, []int{3, 3}}, {1, 1, []int{1}}, {2, 3, []int{2}}, {3, 3, []int{3}}, {3, math.MaxInt, []int{3}}, {0, 3, nil}, {-1, 3, nil}, {3, 0, nil}, {3, -1, nil}, {api.MaxBody, api.MaxBody, []int{api.MaxBody}}, {api.MaxBody + 1, 5, nil}, {math.MaxInt, 1, nil},
	} {
		if got := Sizes(c.n, c.each); !slices.Equal(got, c.want) {
			t.Error(c, got)
		}
	}
	for n := 1; n < 60; n++ {
		for each := 1; each < 70; each++ {
			sum := 0
			for _, s := range Sizes(n, each) {
				if s < 1 || s > each {
					t.Error(n, each, s)
				}
				sum += s
			}
			if sum != n {
				t.Error(n, each, sum)
			}
		}
	}
	if l := Sizes(api.MaxBody, 1); len(l) != api.MaxBody {
		t.Error(len(l))
	}
}
