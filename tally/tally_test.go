package tally

import (
	"math"
	"math/rand"
	"slices"
	"testing"

	"abutment/api"
)

// P49.1
func TestAdd(t *testing.T) {
	var c Tally[string]
	if c.Of("a") != 0 || c.Sum() != 0 {
		t.Error("nothing")
	}
	for _, x := range []struct {
		k       string
		n, want int
	}{{"a", 2, 2}, {"a", 3, 5}, {"b", 1, 1}, {"a", -4, 5}, {"c", 0, 0}, {"d", math.MinInt, 0}, {"e", 1 << 40, 1 << 40}, {"e", 1, 1 << 40}, {"f", math.MaxInt, 1 << 40}, {"f", math.MaxInt, 1 << 40}, {"g", 1<<40 - 1, 1<<40 - 1}, {"g", 1, 1 << 40}} {
		if got := c.Add(x.k, x.n); got != x.want || c.Of(x.k) != x.want {
			t.Errorf("%v: %d", x, got)
		}
	}
	if c.Sum() != 6+3<<40 {
		t.Error(c.Sum())
	}
	var keys []string
	for k, n := range c.Rows() {
		keys = append(keys, k)
		if n != c.Of(k) {
			t.Error(k, n)
		}
		c.Add("z"+k, 1)
	}
	if !slices.Equal(keys, []string{"a", "b", "e", "f", "g"}) {
		t.Error(keys)
	}
	for k := range c.Rows() {
		if k == "b" {
			break
		}
		if k != "a" {
			t.Error(k)
		}
	}
}

// P49.1: keys of other kinds.
func TestKinds(t *testing.T) {
	var c Tally[int]
	for _, k := range []int{5, -3, 5, 0, math.MinInt} {
		c.Add(k, 1)
	}
	var keys []int
	for k := range c.Rows() {
		keys = append(keys, k)
	}
	if !slices.Equal(keys, []int{math.MinInt, -3, 0, 5}) || c.Of(5) != 2 {
		t.Error(keys)
	}
	var f Tally[float64]
	nan := math.NaN()
	f.Add(1.5, 1)
	f.Add(nan, 2)
	if f.Add(nan, 3) != 5 || f.Of(nan) != 5 || f.Sum() != 6 {
		t.Error("what isn't itself", f.Of(nan), f.Sum())
	}
	var counts []int
	for _, n := range f.Rows() {
		counts = append(counts, n)
	}
	if !slices.Equal(counts, []int{5, 1}) {
		t.Error(counts)
	}
}

// P49.1: a nil one.
func TestNil(t *testing.T) {
	var c *Tally[string]
	if c.Add("a", 1) != 0 || c.Of("a") != 0 || c.Sum() != 0 {
		t.Error("nil")
	}
	for range c.Rows() {
		t.Error("rows")
	}
}

// P49.2
func TestLists(t *testing.T) {
	l := []api.Field{{Name: "B"}, {Name: "a"}, {Name: "A", Value: "x"}, {Name: "c"}, {Name: "b"}, {Name: "É"}}
	if got := Fields(l); !slices.Equal(got, []Row{{"a", 2}, {"b", 2}, {"c", 1}, {"É", 1}}) {
		t.Error(got)
	}
	var m []api.Message
	for _, s := range []int{200, 404, 204, 99, 1000, 404, 200, 0} {
		m = append(m, api.Message{Head: api.Head{Status: s}})
	}
	for _, s := range []string{"GET", "get", "PUT", "GET", "A"} {
		m = append(m, api.Message{Head: api.Head{Method: s, Status: 500}})
	}
	if got := Statuses(m); !slices.Equal(got, []Row{{"2xx", 3}, {"0xx", 2}, {"4xx", 2}, {"10xx", 1}}) {
		t.Error(got)
	}
	if got := Methods(m); !slices.Equal(got, []Row{{"GET", 2}, {"A", 1}, {"PUT", 1}, {"get", 1}}) {
		t.Error(got)
	}
	if len(Fields(nil)) != 0 || len(Statuses(nil)) != 0 || len(Methods(nil)) != 0 {
		t.Error("nothing")
	}
}

// P49.3
func TestParts(t *testing.T) {
	r := rand.New(rand.NewSource(12))
	for range 300 {
		var one, two Tally[int]
		whole := map[int]int{}
		for range 30 {
			k, n := r.Intn(6), r.Intn(100)
			one.Add(k, n)
			whole[k] += n
		}
		sum := 0
		for k, n := range whole {
			two.Add(k, n)
			sum += n
		}
		rows := 0
		for k, n := range one.Rows() {
			rows += n
			if n != two.Of(k) || n != whole[k] {
				t.Fatal(k, n)
			}
		}
		if one.Sum() != sum || two.Sum() != sum || rows != sum {
			t.Fatal(sum, rows)
		}
	}
}
