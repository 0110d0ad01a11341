package clock

import (
	"math"
	"math/rand"
	"slices"
	"testing"

	"abutment/api"
)

// P41.1
func TestNew(t *testing.T) {
	for _, now := range []int{-1<<48 - 1, 1<<48 + 1, math.MinInt, math.MaxInt} {
		if New(now) != nil {
			t.Error(now)
		}
	}
	for _, now := range []int{-1 << 48, 0, 1 << 48} {
		if c := New(now); c == nil || c.Now() != now || len(c.Tick(api.MaxTicks)) != 0 {
			t.Error(now)
		}
	}
}

// P41.1, P41.2
func TestDue(t *testing.T) {
	c := New(10)
	left := func(id, n int, ok bool) {
		t.Helper()
		if got, is := c.Left(id); got != n || is != ok {
			t.Errorf("%d: %d %v", id, got, is)
		}
	}
	tick := func(n int, want ...int) {
		t.Helper()
		if got := c.Tick(n); !slices.Equal(got, want) {
			t.Errorf("%d: %v", n, got)
		}
	}
	c.Set(1, 5)
	c.Set(2, 3)
	left(1, 5, true)
	left(3, 0, false)
	tick(2)
	left(2, 1, true)
	tick(1, 2)
	left(2, 0, false)
	tick(-5)
	tick(0)
	if c.Now() != 13 {
		t.Error(c.Now())
	}
	c.Set(2, -9)
	left(2, 0, true)
	c.Set(-7, 0)
	tick(0, -7, 2)
	tick(1)
	tick(1, 1)
	c.Set(9, 4)
	c.Set(9, 6)
	c.Set(5, 6)
	c.Set(7, 1)
	c.Set(8, 2)
	c.Stop(8)
	c.Stop(100)
	left(8, 0, false)
	tick(5, 7)
	tick(100, 5, 9)
	c.Set(1, math.MaxInt)
	left(1, api.MaxTicks, true)
	now := c.Now()
	tick(math.MaxInt, 1)
	if c.Now() != now+api.MaxTicks {
		t.Error(c.Now())
	}
	c.Set(1, math.MinInt)
	tick(math.MinInt, 1)
}

// P41.2: a nil one.
func TestNil(t *testing.T) {
	var c *Clock
	c.Set(1, 2)
	c.Stop(1)
	if n, ok := c.Left(1); n != 0 || ok || c.Now() != 0 || len(c.Tick(9)) != 0 {
		t.Error("nil")
	}
}

// P41.3: in few ticks or in many, the same are due, none ahead of time.
func TestHowTicksCome(t *testing.T) {
	r := rand.New(rand.NewSource(9))
	for range 500 {
		a, b := New(5), New(5)
		after := map[int]int{}
		for range 10 {
			id, n := r.Intn(20), r.Intn(30)
			a.Set(id, n)
			b.Set(id, n)
			after[id] = n
		}
		var one []int
		sum := 0
		for sum < 25 {
			n := 1 + r.Intn(6)
			sum += n
			for _, id := range a.Tick(n) {
				if after[id] > sum || after[id] <= sum-n && after[id] > 0 {
					t.Fatal(id, after[id], sum)
				}
				one = append(one, id)
			}
		}
		two := b.Tick(sum)
		if !slices.Equal(one, two) {
			t.Fatal(one, two)
		}
	}
}
