package act

import (
	"math"
	"strings"
	"testing"

	"abutment/api"
)

var k = api.Conn{Client: 3, Origin: 4}

// P44.1
func TestEvent(t *testing.T) {
	for _, c := range []struct {
		a    Act
		want api.Event
	}{
		{Open{2}, api.Event{Op: 1, Conn: api.Conn{Client: 2}}}, {Send{k, "x"}, api.Event{Op: 2, Conn: k, Text: "x"}}, {End{k}, api.Event{Op: 3, Conn: k}}, {Read{k, 5}, api.Event{Op: 4, Conn: k, N: 5}},
		{Grant{k, 6}, api.Event{Op: 5, Conn: k, N: 6}}, {Tick{7}, api.Event{Op: 6, N: 7}}, {Serve{8}, api.Event{Op: 7, Conn: api.Conn{Client: 8}}},
	} {
		if got := c.a.Event(); got != c.want {
			t.Errorf("%v: %v", c.a, got)
		}
		if a, ok := Of(c.want); a == nil || a != c.a || !ok {
			t.Errorf("%v: %v %v", c.want, a, ok)
		}
	}
}

// P44.1
func TestWord(t *testing.T) {
	for i, want := range []string{"", "open", "send", "end", "read", "grant", "tick", "serve", ""} {
		if got := Word(i); got != want {
			t.Errorf("%d: %q", i, got)
		}
	}
	if Word(-1) != "" || Word(math.MaxInt) != "" || Word(math.MinInt) != "" {
		t.Error("others")
	}
}

// P44.2, P44.4
func TestRight(t *testing.T) {
	long := strings.Repeat("x", 4096)
	for op := -1; op <= 9; op++ {
		for _, c := range []struct {
			e    api.Event
			want string
		}{
			{api.Event{}, "1234567"}, {api.Event{Conn: api.Conn{Client: 15}}, "123457"}, {api.Event{Conn: api.Conn{Client: 1}}, "123457"}, {api.Event{Conn: api.Conn{Client: 16}}, ""}, {api.Event{Conn: api.Conn{Client: -1}}, ""},
			{api.Event{Conn: api.Conn{Origin: 1}}, "2345"}, {api.Event{Conn: api.Conn{Origin: 1000}}, "2345"}, {api.Event{Conn: api.Conn{Origin: 1001}}, ""}, {api.Event{Conn: api.Conn{Origin: -1}}, ""},
			{api.Event{N: 1}, "456"}, {api.Event{N: api.MaxBody}, "456"}, {api.Event{N: api.MaxBody + 1}, "6"}, {api.Event{N: api.MaxTicks}, "6"}, {api.Event{N: api.MaxTicks + 1}, ""}, {api.Event{N: -1}, ""},
			{api.Event{Text: "a"}, "2"}, {api.Event{Text: long}, "2"}, {api.Event{Text: long + "x"}, ""}, {api.Event{Text: "\x00\xff"}, "2"},
		} {
			e := c.e
			e.Op = op
			want := op > 0 && op < 8 && strings.Contains(c.want, string(rune('0'+op)))
			if Right(e) != want {
				t.Errorf("%v", e)
			}
			a, ok := Of(e)
			if ok != want || (a != nil) != want || want && a.Event() != e {
				t.Errorf("%v: %v %v", e, a, ok)
			}
		}
	}
}

// P44.3
func TestSent(t *testing.T) {
	all := []Act{nil, Open{1}, Send{k, "x"}, End{k}, Read{k, 1}, Grant{k, 1}, Tick{1}, Serve{1}, &Send{k, "x"}}
	for i, a := range all {
		want := Send{}
		if i == 2 {
			want = Send{k, "x"}
		}
		if s, ok := Sent(a); s != want || ok != (i == 2) {
			t.Error(a, s, ok)
		}
		if s, ok := Tried(a); s != want || ok != (i == 2) {
			t.Error(a, s, ok)
		}
		panicked := func() (is bool) {
			defer func() { is = recover() != nil }()
			if s := Must(a); s != want {
				t.Error(a, s)
			}
			return
		}()
		if panicked != (i != 2) {
			t.Error(a, panicked)
		}
	}
}

// P44.3
func TestConn(t *testing.T) {
	for _, c := range []struct {
		a    Act
		want api.Conn
		ok   bool
	}{
		{nil, api.Conn{}, false}, {Tick{5}, api.Conn{}, false}, {Open{2}, api.Conn{Client: 2}, true}, {Serve{5}, api.Conn{Client: 5}, true}, {Send{k, ""}, k, true}, {End{k}, k, true}, {Read{k, 2}, k, true}, {Grant{k, 2}, k, true},
	} {
		if got, ok := Conn(c.a); got != c.want || ok != c.ok {
			t.Error(c.a, got, ok)
		}
	}
}
