package connection

import (
	"slices"
	"strings"
	"testing"

	"abutment/api"
)

func fields(name string, values ...string) []api.Field {
	l := []api.Field{{Name: "X", Value: "close"}}
	for _, v := range values {
		l = append(l, api.Field{Name: name, Value: v})
	}
	return l
}

// P17.1
func TestWords(t *testing.T) {
	for _, c := range []struct {
		values, want []string
		e            api.Errno
	}{
		{nil, nil, api.OK}, {[]string{"Close"}, []string{"close"}, api.OK}, {[]string{"Keep-Alive, X-A", "b"}, []string{"keep-alive", "x-a", "b"}, api.OK}, {[]string{"", " , "}, nil, api.OK}, {[]string{"a, A"}, []string{"a", "a"}, api.OK},
		{[]string{"a b"}, nil, api.ErrForm}, {[]string{"close", "a=b"}, nil, api.ErrForm}, {[]string{`close, "`}, nil, api.ErrForm}, {[]string{`"close"`}, nil, api.ErrForm}, {[]string{"close, (x"}, nil, api.ErrForm}, {[]string{"close;a"}, nil, api.ErrForm},
	} {
		l := fields("connection", c.values...)
		got, e := Words(l)
		if !slices.Equal(got, c.want) || e != c.e {
			t.Errorf("%q: %q %d", c.values, got, e)
		}
		for _, w := range []string{"close", "keep-alive", "x-a", "b", "a", "", "no"} {
			want := slices.Contains(c.want, w)
			if Has(l, w) != want || Has(l, strings.ToUpper(w)) != want {
				t.Errorf("%q: %q", c.values, w)
			}
		}
	}
	if !Has(fields("Connection", "Keep-Alive"), "KEEP-ALIVE") || Has(fields("Connection", "keep-alive, a b"), "keep-alive") || Has(nil, "close") || Has(fields("Connection", ""), "") {
		t.Error("has")
	}
}

// P17.2, P17.4
func TestPersists(t *testing.T) {
	for _, c := range []struct {
		values   []string
		old, new bool
	}{
		{nil, false, true}, {[]string{"close"}, false, false}, {[]string{"keep-alive"}, true, true}, {[]string{"Keep-Alive, Close"}, false, false}, {[]string{"CLOSE", "keep-alive"}, false, false}, {[]string{"x"}, false, true}, {[]string{"keep-alive, a b"}, false, false}, {[]string{""}, false, true},
	} {
		l := fields("Connection", c.values...)
		for _, minor := range []int{-1, 0} {
			if Persists(minor, l) != c.old {
				t.Errorf("%d %q", minor, c.values)
			}
		}
		for _, minor := range []int{1, 2} {
			if Persists(minor, l) != c.new {
				t.Errorf("%d %q", minor, c.values)
			}
		}
	}
}

// P17.3
func TestAlive(t *testing.T) {
	for _, c := range []struct {
		values []string
		want   api.Alive
		ok     bool
	}{
		{nil, api.Alive{}, false}, {[]string{""}, api.Alive{}, true}, {[]string{"timeout=5, max=10"}, api.Alive{Timeout: 5, Max: 10}, true}, {[]string{"TimeOut\t= 5", "MAX =\t7"}, api.Alive{Timeout: 5, Max: 7}, true}, {[]string{"timeout=5, timeout=6"}, api.Alive{Timeout: 6}, true},
		{[]string{"300"}, api.Alive{}, true}, {[]string{"timeout"}, api.Alive{}, true}, {[]string{"x=y, max=3"}, api.Alive{Max: 3}, true}, {[]string{"max=1073741824"}, api.Alive{Max: api.MaxTicks}, true}, {[]string{"max=1073741825"}, api.Alive{}, false}, {[]string{"timeout="}, api.Alive{}, false}, {[]string{"timeout=a"}, api.Alive{}, false},
		{[]string{"timeout=5, max=x"}, api.Alive{}, false}, {[]string{"timeout=x, timeout=5"}, api.Alive{}, false}, {[]string{"timeout=5=6"}, api.Alive{}, false}, {[]string{`timeout=5, "`}, api.Alive{}, false}, {[]string{`timeout="5"`}, api.Alive{}, false}, {[]string{"timeout=-1"}, api.Alive{}, false}, {[]string{"x timeout=5"}, api.Alive{}, true}, {[]string{"=5"}, api.Alive{}, true},
	} {
		if got, ok := Alive(fields("keep-alive", c.values...)); got != c.want || ok != c.ok {
			t.Errorf("%q: %v %v", c.values, got, ok)
		}
	}
}
