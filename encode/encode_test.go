package encode

import (
	"math"
	"math/rand"
	"slices"
	"testing"

	"abutment/api"
	"abutment/body"
)

var chunked = api.Frame{Kind: api.Chunked}

// P25.1
func TestParts(t *testing.T) {
	for n, want := range map[int]string{1: "1\r\n", 26: "1a\r\n", 0: "", -1: "", math.MinInt: "", math.MaxInt: "7fffffffffffffff\r\n"} {
		if got := Begin(n); got != want {
			t.Errorf("%d: %q", n, got)
		}
	}
	if End() != "\r\n" || Last() != "0\r\n\r\n" || Last(api.Field{Name: "A", Value: "b"}, api.Field{Name: "C"}) != "0\r\nA: b\r\nC:\r\n\r\n" {
		t.Error("parts")
	}
}

// P25.2
func TestBody(t *testing.T) {
	for _, c := range []struct {
		f        api.Frame
		sizes    []int
		s        string
		trailers []api.Field
		want     string
		e        api.Errno
	}{
		{api.Frame{}, nil, "", nil, "", api.OK}, {api.Frame{Length: 5}, nil, "", nil, "", api.OK}, {api.Frame{}, nil, "a", nil, "", api.ErrFrame}, {api.Frame{Kind: api.Sized, Length: 2}, nil, "ab", nil, "ab", api.OK}, {api.Frame{Kind: api.Sized}, nil, "", nil, "", api.OK}, {api.Frame{Kind: api.Sized, Length: 3}, nil, "ab", nil, "", api.ErrFrame}, {api.Frame{Kind: api.Sized, Length: 1}, nil, "ab", nil, "", api.ErrFrame},
		{api.Frame{Kind: api.Close}, nil, "ab", nil, "ab", api.OK}, {api.Frame{Kind: api.Close, Length: 9}, nil, "", nil, "", api.OK}, {chunked, []int{2, 1}, "abc", nil, "2\r\nab\r\n1\r\nc\r\n0\r\n\r\n", api.OK}, {chunked, nil, "", []api.Field{{Name: "A", Value: "b"}}, "0\r\nA: b\r\n\r\n", api.OK}, {chunked, []int{1}, "\n", []api.Field{{Name: "A"}, {Name: "B", Value: "c"}}, "1\r\n\n\r\n0\r\nA:\r\nB: c\r\n\r\n", api.OK},
		{chunked, []int{2}, "abc", nil, "", api.ErrFrame}, {chunked, []int{2, 2}, "abc", nil, "", api.ErrFrame}, {chunked, []int{3, 0}, "abc", nil, "", api.ErrFrame}, {chunked, []int{4, -1}, "abc", nil, "", api.ErrFrame}, {chunked, []int{-1, 4}, "abc", nil, "", api.ErrFrame}, {chunked, nil, "a", nil, "", api.ErrFrame}, {chunked, []int{math.MaxInt, math.MaxInt, 5}, "abc", nil, "", api.ErrFrame},
		{api.Frame{Kind: api.Chunked, Length: -1}, nil, "", nil, "", api.ErrFrame}, {api.Frame{Kind: api.Close, Length: -1}, nil, "", nil, "", api.ErrFrame}, {api.Frame{Length: -1}, nil, "", nil, "", api.ErrFrame}, {api.Frame{Kind: 4}, nil, "", nil, "", api.ErrFrame}, {api.Frame{Kind: -1}, nil, "", nil, "", api.ErrFrame},
		{api.Frame{Kind: api.Close}, []int{1}, "a", nil, "", api.ErrFrame}, {api.Frame{Kind: api.Sized, Length: 1}, nil, "a", []api.Field{{Name: "A"}}, "", api.ErrFrame}, {api.Frame{}, nil, "", []api.Field{{Name: "a b"}}, "", api.ErrFrame}, {api.Frame{}, []int{0}, "", nil, "", api.ErrFrame},
		{chunked, nil, "", []api.Field{{Name: "A"}, {Name: "a b"}}, "", api.ErrValue}, {chunked, nil, "", []api.Field{{Name: "A", Value: " b"}}, "", api.ErrValue}, {chunked, []int{2}, "a", []api.Field{{Name: ""}}, "", api.ErrFrame}, {chunked, []int{1}, "a", []api.Field{{Name: "A", Value: "\n"}}, "", api.ErrValue},
	} {
		if got, e := Body(c.f, c.sizes, c.s, c.trailers...); got != c.want || e != c.e {
			t.Errorf("%v: %q %d", c, got, e)
		}
	}
}

// P25.3
func TestThereAndBack(t *testing.T) {
	r := rand.New(rand.NewSource(22))
	lim := api.Limits{Head: 1000, Fields: 10, Line: 20}
	for range 2000 {
		b := make([]byte, r.Intn(60))
		r.Read(b)
		f := []api.Frame{chunked, {Kind: api.Sized, Length: len(b)}, {Kind: api.Close}}[r.Intn(3)]
		var sizes []int
		var trailers []api.Field
		if f == chunked {
			for left := len(b); left > 0; left -= sizes[len(sizes)-1] {
				sizes = append(sizes, 1+r.Intn(left))
			}
			for range r.Intn(3) {
				trailers = append(trailers, api.Field{Name: "A", Value: []string{"", "b c"}[r.Intn(2)]})
			}
		}
		s, e := Body(f, sizes, string(b), trailers...)
		if e != api.OK {
			t.Fatal(f, sizes, e)
		}
		d := body.New(f, lim)
		used, l := d.Feed(s)
		l = append(l, d.Close()...)
		back := ""
		var parts []int
		for _, p := range l {
			back += p.Text
			if p.Kind == api.Size {
				parts = append(parts, p.N)
			}
		}
		if used != len(s) || back != string(b) || !slices.Equal(parts, sizes) || !slices.Equal(d.Trailers(), trailers) || !d.Done() {
			t.Fatalf("%v %v %q: %q", f, sizes, b, s)
		}
	}
}
