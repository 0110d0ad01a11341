package httpdate

import (
	"math"
	"math/rand"
	"strings"
	"testing"
	"time"

	"abutment/api"
)

const (
	first = -719162 * 86400
	last  = 2932896*86400 + 86399
	sun94 = 784111777
)

// P6.2
func TestPrint(t *testing.T) {
	for n, want := range map[int]string{
		sun94: "Sun, 06 Nov 1994 08:49:37 GMT", 0: "Thu, 01 Jan 1970 00:00:00 GMT", -1: "Wed, 31 Dec 1969 23:59:59 GMT", -86400: "Wed, 31 Dec 1969 00:00:00 GMT", -86401: "Tue, 30 Dec 1969 23:59:59 GMT",
		first: "Mon, 01 Jan 0001 00:00:00 GMT", last: "Fri, 31 Dec 9999 23:59:59 GMT", first - 1: "", last + 1: "", math.MinInt: "", math.MaxInt: "",
	} {
		if got := Print(n); got != want {
			t.Errorf("%d: %q", n, got)
		}
	}
}

// P6.1, P6.3: the forms, and what has none of them.
func TestForms(t *testing.T) {
	for s, form := range map[string]int{"Sun, 06 Nov 1994 08:49:37 GMT": Fixdate, "Sunday, 06-Nov-94 08:49:37 GMT": Elder, "Sun Nov  6 08:49:37 1994": Plain, "Sun Nov 06 08:49:37 1994": Plain} {
		if n, f, e := Parse(s, 0); n != sun94 || f != form || e != api.OK {
			t.Errorf("%q: %d %d %d", s, n, f, e)
		}
		for i := range s {
			bad := s[:i] + "\x00" + s[i+1:]
			for _, x := range []string{bad, s[:i], s[:i] + s[i+1:], s[:i] + " " + s[i:], s + s[i:]} {
				if strings.Replace(s, "  6", " 06", 1) == x || x == "Sun Nov  6 08:49:37 1994" || x == "Sun Nov 06 08:49:37 1994" {
					continue
				}
				if n, f, e := Parse(x, 0); n != 0 || f != 0 || e != api.ErrForm {
					t.Errorf("%q: %d %d %d", x, n, f, e)
				}
			}
		}
	}
	for _, s := range []string{
		"", "sun, 06 Nov 1994 08:49:37 GMT", "SUN, 06 Nov 1994 08:49:37 GMT", "Sun, 6 Nov 1994 08:49:37 GMT", "Sun,  6 Nov 1994 08:49:37 GMT", "Sun, 06 nov 1994 08:49:37 GMT", "Sun, 06 Nov 1994 08:49:37 UTC", "Sun, 06 Nov 1994 8:49:37 GMT",
		"Sun, 06 Nov 94 08:49:37 GMT", "Sunday, 06-Nov-1994 08:49:37 GMT", "Sunday, 06 Nov 1994 08:49:37 GMT", "Sun, 06-Nov-94 08:49:37 GMT", "Sunday,  6-Nov-94 08:49:37 GMT", "Sun Nov 6 08:49:37 1994", "Sun Nov    08:49:37 1994", "Sun Nov  6 08:49:37 94",
		"Sun Nov  6 08:49:37 1994 GMT", " Sun, 06 Nov 1994 08:49:37 GMT", "Sun, 06 Nov 1994 08:49:37 GMT ", "Sun, +6 Nov 1994 08:49:37 GMT", "Sun, 06 Nov -994 08:49:37 GMT", "Sun, 06 Nov 1994 08:49: 7 GMT", "Funday, 06-Nov-94 08:49:37 GMT",
		", 06 Nov 1994 08:49:37 GMT", "Sun, 06  1994 08:49:37 GMT", ", 06-Nov-94 08:49:37 GMT", " Nov  6 08:49:37 1994",
	} {
		if n, f, e := Parse(s, 0); n != 0 || f != 0 || e != api.ErrForm {
			t.Errorf("%q: %d %d %d", s, n, f, e)
		}
		if got := Fix(s, 0); got != s {
			t.Errorf("%q: %q", s, got)
		}
	}
}

// P6.3: the order of errors, numbers that are no date, another weekday.
func TestErrors(t *testing.T) {
	for _, now := range []int{first - 1, last + 1, math.MinInt, math.MaxInt} {
		for _, s := range []string{"", "Sun, 06 Nov 1994 08:49:37 GMT", "x"} {
			if n, f, e := Parse(s, now); n != 0 || f != 0 || e != api.ErrArg || Fix(s, now) != s {
				t.Error(s, now, n, f, e)
			}
		}
	}
	for _, s := range []string{
		"Mon, 06 Nov 1994 08:49:37 GMT", "Monday, 06-Nov-94 08:49:37 GMT", "Mon Nov  6 08:49:37 1994", "Sun, 00 Nov 1994 08:49:37 GMT", "Sun, 31 Nov 1994 08:49:37 GMT", "Sun, 06 Nov 0000 08:49:37 GMT",
		"Sun, 06 Nov 1994 24:49:37 GMT", "Sun, 06 Nov 1994 08:60:37 GMT", "Sun, 06 Nov 1994 08:49:60 GMT", "Wed, 29 Feb 2023 00:00:00 GMT", "Sunday, 99-Nov-94 08:49:37 GMT", "Sun Nov 99 99:99:99 9999", "Sun Nov  0 00:00:00 1994",
	} {
		if n, f, e := Parse(s, 0); n != 0 || f != 0 || e != api.ErrTime || Fix(s, 0) != s {
			t.Errorf("%q: %d %d %d", s, n, f, e)
		}
	}
}

// P6.3: the year of Elder.
func TestElder(t *testing.T) {
	at := func(year int) int { return int(time.Date(year, 6, 1, 0, 0, 0, 0, time.UTC).Unix()) }
	for _, c := range []struct{ now, year int }{{1970, 1920}, {1970, 2020}, {1970, 2019}, {1970, 1921}, {2026, 2076}, {2026, 1977}, {2026, 2000}, {9999, 9999}, {9949, 9999}, {9950, 9999}, {51, 101}, {51, 2}, {1, 51}, {1, 1}} {
		day := time.Date(c.year, 3, 9, 1, 2, 3, 0, time.UTC)
		n, f, e := Parse(day.Format("Monday, 02-Jan-06 15:04:05 GMT"), at(c.now))
		if want := int(day.Unix()); c.year == 1920 && c.now == 1970 { // 1920 has the digits of 2020, which is at most 50 above
			if e != api.ErrTime {
				t.Error(c, n, f, e)
			}
		} else if n != want || f != Elder || e != api.OK {
			t.Error(c, n, want, f, e)
		}
	}
	for _, c := range []struct {
		s   string
		now int
	}{{"Sunday, 01-Jan-99 00:00:00 GMT", 1}, {"Sunday, 01-Jan-00 00:00:00 GMT", 1}, {"Sunday, 01-Jan-10 00:00:00 GMT", 9980}} {
		for i := range 7 {
			s := strings.Replace(c.s, "Sunday", weekdays()[i], 1)
			if n, f, e := Parse(s, at(c.now)); n != 0 || f != 0 || e != api.ErrTime {
				t.Error(s, n, f, e)
			}
		}
	}
	if s := Fix("Sunday, 06-Nov-94 08:49:37 GMT", 0); s != "Sun, 06 Nov 1994 08:49:37 GMT" {
		t.Error(s)
	}
}

// P6.5, and all three forms against the library's.
func TestThereAndBack(t *testing.T) {
	r := rand.New(rand.NewSource(6))
	for range 5000 {
		n := first + r.Intn(last-first+1)
		s := Print(n)
		at := time.Unix(int64(n), 0).UTC()
		if s != at.Format("Mon, 02 Jan 2006 15:04:05 GMT") {
			t.Fatal(n, s)
		}
		if m, f, e := Parse(s, n); m != n || f != Fixdate || e != api.OK || Fix(s, n) != s {
			t.Fatal(n, s, m, f, e)
		}
		if m, f, e := Parse(at.Format("Mon Jan _2 15:04:05 2006"), 0); m != n || f != Plain || e != api.OK {
			t.Fatal(n, m, f, e)
		}
		elder := at.Format("Monday, 02-Jan-06 15:04:05 GMT")
		if m, f, e := Parse(elder, n); m != n || f != Elder || e != api.OK || Fix(elder, n) != s {
			t.Fatal(n, m, f, e)
		}
	}
}
