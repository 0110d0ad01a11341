package hostfix

import (
	"slices"
	"testing"

	"abutment/api"
	"abutment/host"
	"abutment/target"
)

func fields(s ...string) []api.Field {
	var l []api.Field
	for i := 0; i < len(s); i += 2 {
		l = append(l, api.Field{Name: s[i], Value: s[i+1]})
	}
	return l
}

var (
	origin   = api.Target{Form: target.Origin, Path: "/", Authority: "no"}
	absolute = api.Target{Form: target.Absolute, Authority: "A.b:80"}
	asterisk = api.Target{Form: target.Asterisk}
)

// P32.1
func TestPlace(t *testing.T) {
	for _, c := range []struct {
		l          []api.Field
		t          api.Target
		authority  string
		place, key string
	}{
		{fields("Host", "C:81"), absolute, "d", "A.b:80", "a.b"}, {nil, absolute, "d", "A.b:80", "a.b"}, {fields("X", "y", "hOST", "C:081", "Host", "e"), origin, "d", "C:081", "c:81"}, {nil, origin, "d", "d", "d"}, {nil, asterisk, "", "", ""},
		{fields("Host", ""), origin, "d", "", ""}, {fields("Host", "a b"), origin, "d", "a b", ""}, {nil, api.Target{Form: target.Authority, Authority: "x:1"}, "d", "d", "d"}, {nil, api.Target{Form: target.Absolute}, "d", "", ""}, {nil, api.Target{}, "d", "d", "d"},
	} {
		if got := Place(c.l, c.t, c.authority); got != c.place {
			t.Errorf("%v: %q", c, got)
		}
		if got := Key(c.l, c.t, c.authority); got != c.key {
			t.Errorf("%v: %q", c, got)
		}
	}
}

// P32.2
func TestFix(t *testing.T) {
	for _, c := range []struct {
		l         []api.Field
		t         api.Target
		authority string
		to        int
		want      []api.Field
		e         api.Errno
	}{
		{fields("X", "1", "host", "c", "Y", "2", "Host", "d"), absolute, "", 1, fields("X", "1", "host", "A.b:80", "Y", "2"), api.OK}, {fields("X", "1"), origin, "d", 1, fields("X", "1", "Host", "d"), api.OK}, {fields("Host", "C"), origin, "d", 0, fields("Host", "C"), api.OK},
		{fields("X", "1"), origin, "", 0, fields("X", "1"), api.OK}, {fields("Host", "", "X", "1"), origin, "d", 0, fields("X", "1"), api.OK}, {fields("Host", "", "X", "1"), origin, "d", 1, nil, api.ErrHost}, {fields("X", "1"), origin, "", 1, nil, api.ErrHost}, {fields("X", "1"), origin, "", 7, nil, api.ErrHost},
		{fields("Host", "a b"), origin, "", 1, nil, api.ErrHost}, {fields("Host", "a b"), origin, "", 0, fields("Host", "a b"), api.OK}, {fields("Host", "a b"), origin, "", -1, fields("Host", "a b"), api.OK}, {fields("Host", "a:70000"), origin, "", 1, nil, api.ErrHost},
	} {
		kept := slices.Clone(c.l)
		got, e := Fix(c.l, c.t, c.authority, c.to)
		if !slices.Equal(got, c.want) || e != c.e || !slices.Equal(c.l, kept) {
			t.Errorf("%v: %q %d", c, got, e)
		}
		// P32.3
		if e == api.OK && c.to > 0 {
			n := 0
			for _, f := range got {
				if f.Name == "Host" || f.Name == "host" {
					n++
					if _, _, e := host.Parse(f.Value); e != api.OK {
						t.Error(f)
					}
				}
			}
			if n != 1 {
				t.Error(got)
			}
		}
	}
}
