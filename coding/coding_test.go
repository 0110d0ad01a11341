package coding

import (
	"testing"

	"abutment/api"
)

// P19.1, P19.3
func TestChunked(t *testing.T) {
	for _, c := range []struct {
		values []string
		is     bool
		e      api.Errno
	}{
		{nil, false, api.OK}, {[]string{"chunked"}, true, api.OK}, {[]string{"Chunked"}, true, api.OK}, {[]string{" , CHUNKED\t,"}, true, api.OK}, {[]string{"", "chunked"}, true, api.OK},
		{[]string{"gzip, chunked"}, false, api.ErrCoding}, {[]string{"gzip", "chunked"}, false, api.ErrCoding}, {[]string{"gzip;q=1, x, chunked"}, false, api.ErrCoding}, {[]string{"identity, chunked"}, false, api.ErrCoding},
		{[]string{"chunked, gzip"}, false, api.ErrFrame}, {[]string{"gzip"}, false, api.ErrFrame}, {[]string{"chunked, chunked"}, false, api.ErrFrame}, {[]string{"chunked", "chunked"}, false, api.ErrFrame}, {[]string{"chunked;a=b"}, false, api.ErrFrame}, {[]string{"chunked;a"}, false, api.ErrFrame}, {[]string{"gzip, chunked;a"}, false, api.ErrFrame},
		{[]string{""}, false, api.ErrFrame}, {[]string{","}, false, api.ErrFrame}, {[]string{`"`}, false, api.ErrFrame}, {[]string{`chunked, "`}, false, api.ErrFrame}, {[]string{"a b, chunked"}, false, api.ErrFrame}, {[]string{"chunked;"}, false, api.ErrFrame}, {[]string{`"chunked"`}, false, api.ErrFrame}, {[]string{"xchunked"}, false, api.ErrFrame},
		{[]string{"chunked;a=b, chunked"}, false, api.ErrFrame}, {[]string{"identity"}, false, api.ErrFrame}, {[]string{"chunked", "gzip, chunked"}, false, api.ErrFrame}, {[]string{"chunked", ""}, true, api.OK},
	} {
		l := []api.Field{{Name: "TE", Value: "gzip"}}
		for _, v := range c.values {
			l = append(l, api.Field{Name: "transfer-Encoding", Value: v})
		}
		if is, e := Chunked(l); is != c.is || e != c.e {
			t.Errorf("%q: %v %d", c.values, is, e)
		}
	}
}

// P19.2
func TestTrailers(t *testing.T) {
	for _, c := range []struct {
		values []string
		want   bool
	}{
		{nil, false}, {[]string{"trailers"}, true}, {[]string{"gzip;q=0.5, Trailers"}, true}, {[]string{"gzip", "trailers;q=0"}, true}, {[]string{"trailers x"}, false}, {[]string{`trailers, "`}, false}, {[]string{""}, false}, {[]string{"gzip"}, false}, {[]string{"a b, trailers"}, true}, {[]string{`"trailers"`}, false}, {[]string{"trailer"}, false},
	} {
		l := []api.Field{{Name: "Trailer", Value: "trailers"}}
		for _, v := range c.values {
			l = append(l, api.Field{Name: "te", Value: v})
		}
		if Trailers(l) != c.want {
			t.Errorf("%q", c.values)
		}
	}
}
