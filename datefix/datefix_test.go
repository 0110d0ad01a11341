package datefix

import (
	"math"
	"slices"
	"testing"

	"abutment/api"
)

// P30.1
func TestDated(t *testing.T) {
	for _, name := range []string{"Date", "Expires", "Last-Modified", "If-Modified-Since", "If-Unmodified-Since", "DATE", "last-modified", "eXpires"} {
		if !Dated(name) {
			t.Error(name)
		}
	}
	for _, name := range []string{"", "Dat", "Date ", "If-Range", "Retry-After", "Last-Modifie", "Modified-Since", "Set-Cookie"} {
		if Dated(name) {
			t.Error(name)
		}
	}
}

// P30.1, P30.2
func TestFix(t *testing.T) {
	const fixed = "Sun, 06 Nov 1994 08:49:37 GMT"
	l := []api.Field{{Name: "date", Value: "Sun Nov  6 08:49:37 1994"}, {Name: "X", Value: "Sun Nov  6 08:49:37 1994"}, {Name: "EXPIRES", Value: "0"}, {Name: "Last-Modified", Value: "Sunday, 06-Nov-94 08:49:37 GMT"}, {Name: "If-Modified-Since", Value: fixed}, {Name: "Date", Value: "Sun Nov  7 08:49:37 1994"}, {Name: "If-Unmodified-Since", Value: "Sun Nov 06 08:49:37 1994"}}
	want := []api.Field{{Name: "date", Value: fixed}, l[1], l[2], {Name: "Last-Modified", Value: fixed}, l[4], l[5], {Name: "If-Unmodified-Since", Value: fixed}}
	kept := slices.Clone(l)
	if got := Fix(l, 0); !slices.Equal(got, want) || !slices.Equal(Fix(got, 0), want) {
		t.Error(got)
	}
	if !slices.Equal(l, kept) {
		t.Error("changed")
	}
	if got := Fix(l, math.MaxInt); !slices.Equal(got, l) || len(Fix(nil, 0)) != 0 {
		t.Error(got)
	}
	at2076 := []api.Field{{Name: "Date", Value: "Friday, 06-Nov-76 08:49:37 GMT"}}
	if got := Fix(at2076, 1793000000); got[0].Value != "Fri, 06 Nov 2076 08:49:37 GMT" {
		t.Error(got)
	}
}
