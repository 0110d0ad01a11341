package civil

import (
	"math"
	"math/rand"
	"testing"
	"time"

	"abutment/api"
)

// P5.1
func TestLeap(t *testing.T) {
	for year, want := range map[int]bool{2000: true, 1900: false, 2024: true, 2023: false, 0: true, -4: true, -100: false, -400: true, 4: true, 100: false, 12000: true, math.MinInt: true, math.MaxInt: false} {
		if Leap(year) != want {
			t.Error(year)
		}
	}
}

// P5.1
func TestLong(t *testing.T) {
	for m, want := range map[int]int{0: 0, 13: 0, -1: 0, math.MaxInt: 0, math.MinInt: 0, 1: 31, 2: 28, 3: 31, 4: 30, 5: 31, 6: 30, 7: 31, 8: 31, 9: 30, 10: 31, 11: 30, 12: 31} {
		if got := Long(2023, m); got != want {
			t.Error(m, got)
		}
	}
	if Long(2024, 2) != 29 || Long(1900, 2) != 28 || Long(0, 2) != 29 || Long(-1, 12) != 31 || Long(20000, 2) != 29 {
		t.Error("February")
	}
}

// P5.2
func TestDays(t *testing.T) {
	for _, c := range []struct{ y, m, d, n int }{{1970, 1, 1, 0}, {1970, 1, 2, 1}, {1969, 12, 31, -1}, {2000, 3, 1, 11017}, {1, 1, 1, -719162}, {9999, 12, 31, 2932896}} {
		if n, ok := Days(c.y, c.m, c.d); n != c.n || !ok {
			t.Error(c, n, ok)
		}
	}
	for _, c := range [][3]int{{0, 1, 1}, {10000, 1, 1}, {-1, 1, 1}, {2000, 0, 1}, {2000, 13, 1}, {2000, 1, 0}, {2000, 1, 32}, {2023, 2, 29}, {1900, 2, 29}, {2000, 4, 31}, {math.MaxInt, 1, 1}, {1, math.MinInt, 1}} {
		if n, ok := Days(c[0], c[1], c[2]); n != 0 || ok {
			t.Error(c, n, ok)
		}
	}
}

// P5.2, P5.4: every day of all years, one behind the other.
func TestEveryDay(t *testing.T) {
	at := time.Date(1, 1, 1, 0, 0, 0, 0, time.UTC)
	for n := -719162; n <= 2932896; n++ {
		y, m, d, ok := Of(n)
		if !ok || y != at.Year() || m != int(at.Month()) || d != at.Day() || Weekday(n) != int(at.Weekday()) {
			t.Fatal(n, y, m, d, ok, at)
		}
		if back, ok := Days(y, m, d); back != n || !ok {
			t.Fatal(n, back, ok)
		}
		at = at.AddDate(0, 0, 1)
	}
}

// P5.2
func TestOfNone(t *testing.T) {
	for _, n := range []int{-719163, 2932897, math.MinInt, math.MaxInt} {
		if y, m, d, ok := Of(n); y != 0 || m != 0 || d != 0 || ok {
			t.Error(n, y, m, d, ok)
		}
	}
}

// P5.2: weekdays go on beyond all years.
func TestWeekday(t *testing.T) {
	for n, want := range map[int]int{0: 4, 1: 5, 2: 6, 3: 0, -1: 3, -4: 0, -5: 6, 7: 4, 700000007: 4, -700000007: 4, 700000010: 0} {
		if got := Weekday(n); got != want {
			t.Error(n, got)
		}
	}
	for _, n := range []int{math.MinInt, math.MaxInt - 1, -719163, 2932896} {
		if got := Weekday(n + 1); got != (Weekday(n)+1)%7 || got < 0 {
			t.Error(n, got)
		}
	}
}

// P5.3
func TestSeconds(t *testing.T) {
	for d, want := range map[api.Date]int{
		{Year: 1970, Month: 1, Day: 1}: 0, {Year: 1970, Month: 1, Day: 1, Hour: 23, Minute: 59, Second: 59}: 86399, {Year: 1994, Month: 11, Day: 6, Hour: 8, Minute: 49, Second: 37}: 784111777,
		{Year: 1969, Month: 12, Day: 31, Hour: 23, Minute: 59, Second: 59}: -1,
	} {
		if n, ok := Seconds(d); n != want || !ok {
			t.Error(d, n, ok)
		}
	}
	right := api.Date{Year: 2000, Month: 2, Day: 29}
	for _, f := range []func(d *api.Date){
		func(d *api.Date) { d.Hour = 24 }, func(d *api.Date) { d.Hour = -1 }, func(d *api.Date) { d.Minute = 60 }, func(d *api.Date) { d.Minute = -1 }, func(d *api.Date) { d.Second = 60 }, func(d *api.Date) { d.Second = -1 },
		func(d *api.Date) { d.Day = 30 }, func(d *api.Date) { d.Year = 0 }, func(d *api.Date) { d.Month = 13 },
	} {
		d := right
		f(&d)
		if n, ok := Seconds(d); n != 0 || ok {
			t.Error(d, n, ok)
		}
	}
}

// P5.3, P5.4
func TestDate(t *testing.T) {
	first, last := -719162*86400, 2932896*86400+86399
	for _, n := range []int{first - 1, last + 1, math.MinInt, math.MaxInt} {
		if d, ok := Date(n); d != (api.Date{}) || ok {
			t.Error(n, d, ok)
		}
	}
	r := rand.New(rand.NewSource(5))
	for i := range 20000 {
		n := first + r.Intn(last-first+1)
		switch i {
		case 0:
			n = first
		case 1:
			n = last
		case 2:
			n = -1
		}
		at := time.Unix(int64(n), 0).UTC()
		d, ok := Date(n)
		if !ok || d != (api.Date{Year: at.Year(), Month: int(at.Month()), Day: at.Day(), Hour: at.Hour(), Minute: at.Minute(), Second: at.Second()}) {
			t.Fatal(n, d, ok)
		}
		if back, ok := Seconds(d); back != n || !ok {
			t.Fatal(n, d, back)
		}
	}
}
