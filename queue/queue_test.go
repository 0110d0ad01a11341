package queue

import (
	"math"
	"math/rand"
	"testing"

	"abutment/api"
)

// P3.1
func TestNew(t *testing.T) {
	for _, most := range []int{-1, api.MaxQueue + 1, math.MinInt, math.MaxInt} {
		if New(most) != nil {
			t.Error(most)
		}
	}
	for _, most := range []int{0, 1, api.MaxQueue} {
		if q := New(most); q == nil || q.Most() != most || q.Room() != most || q.Len() != 0 {
			t.Error(most)
		}
	}
}

// P3.1, the example.
func TestExample(t *testing.T) {
	q := New(3)
	if n := q.Put("abcd"); n != 3 {
		t.Error(n)
	}
	if s := q.Peek(2); s != "ab" || q.Len() != 3 {
		t.Error(s)
	}
	if s := q.Take(2); s != "ab" || q.Len() != 1 || q.Room() != 2 || q.Most() != 3 {
		t.Error(s)
	}
	if n := q.Put("xy"); n != 2 {
		t.Error(n)
	}
	if q.Put("z") != 0 || q.Put("") != 0 || q.Take(0) != "" || q.Take(-1) != "" || q.Peek(0) != "" || q.Peek(math.MinInt) != "" {
		t.Error("nothing")
	}
	if s := q.Peek(math.MaxInt); s != "cxy" || q.Len() != 3 {
		t.Error(s)
	}
	if s := q.Take(9); s != "cxy" || q.Len() != 0 || q.Room() != 3 {
		t.Error(s)
	}
	if q.Take(1) != "" || q.Peek(1) != "" {
		t.Error("empty")
	}
}

// P3.2: a nil one, a plain one, and one without room.
func TestNothing(t *testing.T) {
	for _, q := range []*Queue{nil, {}, New(0)} {
		if q.Put("a") != 0 || q.Put("") != 0 || q.Take(1) != "" || q.Peek(1) != "" || q.Len() != 0 || q.Room() != 0 || q.Most() != 0 {
			t.Error("nothing")
		}
	}
}

// P3.3: against a plain text.
func TestInOrder(t *testing.T) {
	r := rand.New(rand.NewSource(3))
	for range 300 {
		most := r.Intn(9)
		q, waits := New(most), ""
		for range 200 {
			n := r.Intn(12) - 2
			want := waits[:max(0, min(n, len(waits)))]
			switch r.Intn(3) {
			case 0:
				b := make([]byte, max(0, n))
				r.Read(b)
				fits := min(len(b), most-len(waits))
				waits += string(b[:fits])
				if got := q.Put(string(b)); got != fits {
					t.Fatal(got, fits)
				}
			case 1:
				if got := q.Peek(n); got != want {
					t.Fatal(got, want)
				}
			case 2:
				waits = waits[len(want):]
				if got := q.Take(n); got != want {
					t.Fatal(got, want)
				}
			}
			if q.Len() != len(waits) || q.Len()+q.Room() != q.Most() || q.Most() != most {
				t.Fatal(q.Len(), q.Room(), q.Most())
			}
		}
	}
}
