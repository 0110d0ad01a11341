package cachefix

import (
	"math"
	"slices"
	"testing"

	"abutment/api"
)

func fields(s ...string) []api.Field {
	l := make([]api.Field, 0, len(s))
	for i := 0; i < len(s); i += 2 {
		l = append(l, api.Field{Name: s[i], Value: s[i+1]})
	}
	return l
}

// check holds what comes of l, and what is done twice, against what must be added.
func check(t *testing.T, l []api.Field, do func(l []api.Field) []api.Field, more ...string) {
	t.Helper()
	want := append(slices.Clone(l), fields(more...)...)
	kept := slices.Clone(l)
	got := do(l)
	if !slices.Equal(got, want) || !slices.Equal(do(got), want) || !slices.Equal(l, kept) {
		t.Errorf("%q: %q, twice %q", l, got, do(got))
	}
}

// P31.1, P31.4
func TestRequest(t *testing.T) {
	for _, c := range []struct {
		l        []api.Field
		from, to int
		more     []string
	}{
		{fields("Pragma", "no-cache"), 0, 1, []string{"Cache-Control", "no-cache"}}, {fields("Pragma", "No-Cache, x"), -1, 2, []string{"Cache-Control", "no-cache"}}, {fields("Pragma", "no-cache", "cache-control", ""), 0, 1, nil}, {fields("Pragma", "x"), 0, 1, nil}, {nil, 0, 1, nil}, {fields("Cache-Control", "no-cache"), 0, 1, nil},
		{fields("Cache-Control", "No-Cache"), 1, 0, []string{"Pragma", "no-cache"}}, {fields("Cache-Control", "no-cache"), 2, -1, []string{"Pragma", "no-cache"}}, {fields("Cache-Control", "no-cache", "pragma", "x"), 1, 0, nil}, {fields("Cache-Control", "no-store, private"), 1, 0, nil}, {fields("Pragma", "no-cache"), 1, 0, nil}, {fields("Cache-Control", "no-cache, a b"), 1, 0, nil},
		{fields("Pragma", "no-cache"), 0, 0, nil}, {fields("Pragma", "no-cache"), 1, 1, nil}, {fields("Cache-Control", "no-cache"), 1, 1, nil}, {fields("Cache-Control", "no-cache"), 0, 0, nil},
	} {
		check(t, c.l, func(l []api.Field) []api.Field { return Request(l, c.from, c.to) }, c.more...)
	}
}

const (
	sun94  = 784111777
	date   = "Sun, 06 Nov 1994 08:49:37 GMT"
	elder  = "Sunday, 06-Nov-94 08:49:37 GMT"
	minute = "Sun, 06 Nov 1994 08:50:37 GMT"
	origin = "Thu, 01 Jan 1970 00:00:00 GMT"
)

// P31.2, P31.4
func TestDown(t *testing.T) {
	for _, c := range []struct {
		l    []api.Field
		now  int
		more []string
	}{
		{nil, 0, nil}, {fields("Cache-Control", "public"), 0, nil}, {fields("Date", date), 0, nil},
		{fields("Cache-Control", "no-cache"), 0, []string{"Pragma", "no-cache", "Expires", origin}}, {fields("Cache-Control", "No-Store", "Date", date), 0, []string{"Pragma", "no-cache", "Expires", date}}, {fields("Cache-Control", "private=\"x\", max-age=60", "Date", elder), 0, []string{"Pragma", "no-cache", "Expires", date}},
		{fields("Cache-Control", "private", "Pragma", "x"), 0, []string{"Expires", origin}}, {fields("Cache-Control", "private", "Expires", "x"), 0, []string{"Pragma", "no-cache"}}, {fields("Cache-Control", "private", "expires", "", "pragma", ""), 0, nil},
		{fields("Cache-Control", "max-age=60", "date", date, "Date", "x"), 0, []string{"Expires", minute}}, {fields("Cache-Control", "max-age=60", "date", "x", "Date", date), 0, []string{"Expires", "Thu, 01 Jan 1970 00:01:00 GMT"}}, {fields("Cache-Control", "max-age=60"), sun94, []string{"Expires", minute}}, {fields("Cache-Control", "max-age=0"), 0, []string{"Expires", origin}},
		{fields("Cache-Control", "max-age=60", "Expires", "y"), 0, nil}, {fields("Cache-Control", "max-age=x"), 0, nil}, {fields("Cache-Control", "max-age=9999999999"), 0, []string{"Expires", "Tue, 19 Jan 2038 03:14:07 GMT"}},
		{fields("Cache-Control", "no-cache"), math.MaxInt, []string{"Pragma", "no-cache"}}, {fields("Cache-Control", "no-cache", "Date", date), math.MaxInt, []string{"Pragma", "no-cache"}}, {fields("Cache-Control", "max-age=5"), math.MaxInt, nil}, {fields("Cache-Control", "max-age=60", "Date", date), math.MinInt, nil}, {fields("Cache-Control", "max-age=60"), 2932896*86400 + 86399, nil},
	} {
		for _, v := range [][2]int{{1, 0}, {7, -1}} {
			check(t, c.l, func(l []api.Field) []api.Field { return Response(l, v[0], v[1], c.now) }, c.more...)
		}
		for _, v := range [][2]int{{1, 1}, {0, 0}, {-1, 0}} {
			check(t, c.l, func(l []api.Field) []api.Field { return Response(l, v[0], v[1], c.now) })
		}
	}
}

// P31.3, P31.4
func TestUp(t *testing.T) {
	for _, c := range []struct {
		l    []api.Field
		now  int
		more []string
	}{
		{nil, 0, nil}, {fields("Pragma", "no-cache"), 0, []string{"Cache-Control", "no-cache"}}, {fields("pragma", "x, NO-CACHE", "Date", date, "Expires", minute), 0, []string{"Cache-Control", "no-cache"}}, {fields("Pragma", "no-cache", "cache-control", ""), 0, nil}, {fields("Date", date, "Expires", minute, "Cache-Control", "x"), 0, nil},
		{fields("Date", date, "Expires", minute), 0, []string{"Cache-Control", "max-age=60"}}, {fields("Pragma", "x", "expires", minute, "date", elder, "Expires", origin), 0, []string{"Cache-Control", "max-age=60"}}, {fields("Date", minute, "Expires", date), 0, []string{"Cache-Control", "max-age=0"}}, {fields("Date", date, "Expires", date), 0, []string{"Cache-Control", "max-age=0"}},
		{fields("Date", origin, "Expires", "Fri, 31 Dec 9999 23:59:59 GMT"), 0, []string{"Cache-Control", "max-age=2147483647"}}, {fields("Date", origin, "Expires", "Tue, 19 Jan 2038 03:14:08 GMT"), 0, []string{"Cache-Control", "max-age=2147483647"}}, {fields("Date", origin, "Expires", "Tue, 19 Jan 2038 03:14:06 GMT"), 0, []string{"Cache-Control", "max-age=2147483646"}},
		{fields("Date", date), 0, nil}, {fields("Expires", minute), 0, nil}, {fields("Date", date, "Expires", "0"), 0, nil}, {fields("Date", "x", "Expires", minute), 0, nil}, {fields("Date", date, "Expires", minute), math.MaxInt, nil},
	} {
		check(t, c.l, func(l []api.Field) []api.Field { return Response(l, 0, 1, c.now) }, c.more...)
		check(t, c.l, func(l []api.Field) []api.Field { return Response(l, -5, 5, c.now) }, c.more...)
		for _, v := range [][2]int{{1, 1}, {0, 0}} {
			check(t, c.l, func(l []api.Field) []api.Field { return Response(l, v[0], v[1], c.now) })
		}
	}
}
