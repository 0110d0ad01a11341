package plan

import (
	"testing"

	"abutment/api"
)

var (
	keep    = api.Out{Frame: api.Frame{Kind: api.Sized}, Keep: true}
	chunked = api.Frame{Kind: api.Chunked}
	closing = api.Frame{Kind: api.Close}
)

// P36.1, P36.2, P36.3: requests.
func TestRequest(t *testing.T) {
	for _, c := range []struct {
		f        api.Frame
		old, new api.Out
	}{
		{api.Frame{}, api.Out{}, api.Out{}}, {api.Frame{Length: 5}, api.Out{Frame: api.Frame{Length: 5}}, api.Out{Frame: api.Frame{Length: 5}}}, {api.Frame{Kind: api.Sized, Length: 7}, api.Out{Frame: api.Frame{Kind: api.Sized, Length: 7}}, api.Out{Frame: api.Frame{Kind: api.Sized, Length: 7}}}, {chunked, keep, api.Out{Frame: chunked}}, {closing, api.Out{}, api.Out{}}, {api.Frame{Kind: 4, Length: 3}, api.Out{}, api.Out{}}, {api.Frame{Kind: -1}, api.Out{}, api.Out{}},
	} {
		for _, minor := range []int{-1, 0, 1, 2} {
			want := c.old
			if minor > 0 {
				want = c.new
			}
			if got := Request(c.f, api.Config{Minor: minor, Stream: minor & 1, Chunk: 9}); got != want {
				t.Error(c.f, minor, got)
			}
		}
	}
}

// P36.1, P36.2, P36.3: responses.
func TestResponse(t *testing.T) {
	for _, c := range []struct {
		f                api.Frame
		old, stream, new api.Out
	}{
		{api.Frame{}, api.Out{}, api.Out{}, api.Out{}}, {api.Frame{Length: 5}, api.Out{Frame: api.Frame{Length: 5}}, api.Out{Frame: api.Frame{Length: 5}}, api.Out{Frame: api.Frame{Length: 5}}}, {api.Frame{Kind: api.Sized, Length: 7}, api.Out{Frame: api.Frame{Kind: api.Sized, Length: 7}}, api.Out{Frame: api.Frame{Kind: api.Sized, Length: 7}}, api.Out{Frame: api.Frame{Kind: api.Sized, Length: 7}}},
		{chunked, keep, api.Out{Frame: closing}, api.Out{Frame: chunked}}, {closing, api.Out{Frame: closing}, api.Out{Frame: closing}, api.Out{Frame: chunked, Chunk: 9}}, {api.Frame{Kind: 4, Length: 3}, api.Out{}, api.Out{}, api.Out{}}, {api.Frame{Kind: -1}, api.Out{}, api.Out{}, api.Out{}},
	} {
		for _, minor := range []int{-1, 0, 1, 2} {
			for _, stream := range []int{0, 1, -1} {
				want := c.old
				if minor > 0 {
					want = c.new
				} else if stream != 0 {
					want = c.stream
				}
				if got := Response(c.f, minor, api.Config{Minor: 1 - minor, Stream: stream, Chunk: 9}); got != want {
					t.Error(c.f, minor, stream, got)
				}
			}
		}
	}
}
