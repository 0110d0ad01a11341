package script

import (
	"math"
	"math/rand"
	"reflect"
	"strings"
	"testing"

	"abutment/act"
	"abutment/api"
	"abutment/config"
)

const first = "abutment - 1 0 1 1 1024 4096 10 0 8 8 0 8192 100 256 65536 0\n"

func conn(client, origin int) api.Conn { return api.Conn{Client: client, Origin: origin} }

// P45.1
func TestRight(t *testing.T) {
	many := make([]api.Event, 10001)
	for i := range many {
		many[i] = api.Event{Op: act.OpTick}
	}
	bad := config.Usual()
	bad.Chunk = 0
	for i, c := range []struct {
		x Script
		e api.Errno
	}{
		{Script{Config: config.Usual()}, api.OK}, {Script{Config: config.Usual(), Now: 1 << 40, Events: many[:10000]}, api.OK}, {Script{Now: -1}, api.ErrName}, {Script{Config: bad, Now: -1}, api.ErrNum}, {Script{Config: config.Usual(), Now: -1, Events: many}, api.ErrTime}, {Script{Config: config.Usual(), Now: 1<<40 + 1}, api.ErrTime}, {Script{Config: config.Usual(), Now: math.MinInt}, api.ErrTime},
		{Script{Config: config.Usual(), Events: append([]api.Event{{}}, many[1:]...)}, api.ErrLong}, {Script{Config: config.Usual(), Events: []api.Event{{Op: 1}, {Op: 8}}}, api.ErrArg}, {Script{Config: config.Usual(), Events: []api.Event{{}}}, api.ErrArg},
	} {
		if e := Right(c.x); e != c.e {
			t.Error(i, e)
		}
		if s := Print(c.x); (s != "") != (c.e == api.OK) {
			t.Error(i, s)
		}
	}
}

// P45.2
func TestQuote(t *testing.T) {
	for s, want := range map[string]string{"": `""`, "a b~": `"a b~"`, "a\r\n": `"a\0d\0a"`, `"\`: `"\22\5c"`, "\x00\x1f\x7f\xff": `"\00\1f\7f\ff"`, "é1": `"\c3\a91"`, "\xe2\x82": `"\e2\82"`, "日x\t": `"\e6\97\a5x\09"`} {
		got := Quote(s)
		if got != want {
			t.Errorf("%q: %s", s, got)
		}
		if back, ok := Unquote(got); back != s || !ok {
			t.Errorf("%s: %q %v", got, back, ok)
		}
	}
	for _, s := range []string{"", `"`, "a", `"a`, `a"`, `"""`, `"\"`, `"\0"`, `"\0g"`, `"\0D"`, `"\41"`, `"\20"`, "\"\n\"", "\"é\"", `"a" `, ` "a"`, `"\\"`, `"\c"`, "\"\xff\"", `""""`, `"a"b"`, "\"\u0161\"", `"\ 0"`} {
		if back, ok := Unquote(s); back != "" || ok {
			t.Errorf("%s: %q %v", s, back, ok)
		}
	}
	for n := range 256 {
		s := string([]byte{byte(n)})
		if back, ok := Unquote(Quote(s)); back != s || !ok || (len(Quote(s)) == 3) != (n >= 32 && n <= 126 && n != '"' && n != '\\') {
			t.Errorf("%q: %s", s, Quote(s))
		}
	}
}

var events = []api.Event{
	{Op: act.OpOpen, Conn: conn(3, 0)}, {Op: act.OpSend, Conn: conn(0, 1), Text: "a\r\n"}, {Op: act.OpEnd, Conn: conn(15, 1000)}, {Op: act.OpRead, Conn: conn(1, 2), N: 30}, {Op: act.OpGrant, Conn: conn(1, 0), N: 0}, {Op: act.OpTick, N: 5}, {Op: act.OpServe, Conn: conn(2, 0)}, {Op: act.OpSend, Conn: conn(0, 0)}, {Op: act.OpSend, Text: "b c 1.2"},
}

const printed = first + "7\nopen 3\nsend 0.1 \"a\\0d\\0a\"\nend 15.1000\nread 1.2 30\ngrant 1.0 0\ntick 5\nserve 2\nsend 0.0 \"\"\nsend 0.0 \"b c 1.2\"\n"

// P45.3, P45.4
func TestPrint(t *testing.T) {
	x := Script{Config: config.Usual(), Now: 7, Events: events}
	if got := Print(x); got != printed {
		t.Errorf("%q", got)
	}
	if back, n, e := Parse(printed); !reflect.DeepEqual(back, x) || n != 11 || e != api.OK {
		t.Error(back, n, e)
	}
	if back, n, e := Parse(first + "0\n"); back.Config != config.Usual() || back.Now != 0 || len(back.Events) != 0 || n != 2 || e != api.OK {
		t.Error(back, n, e)
	}
}

// P45.3: what is wrong, in which line.
func TestParse(t *testing.T) {
	many := first + "0\n" + strings.Repeat("tick 0\n", 10000)
	if _, n, e := Parse(many); n != 10002 || e != api.OK {
		t.Error(n, e)
	}
	for _, c := range []struct {
		s string
		n int
		e api.Errno
	}{
		{"", 0, api.ErrEnd}, {"\n", 1, api.ErrEnd}, {first, 1, api.ErrEnd}, {first + "0", 1, api.ErrEnd}, {first + "0\nopen 0", 2, api.ErrEnd}, {many + "x", 10002, api.ErrEnd}, {many + "x\n", 10003, api.ErrLong}, {many + "x\n\n\n\n", 10003, api.ErrLong}, {"\n\n", 1, api.ErrForm}, {" " + first + "x\n", 1, api.ErrForm}, {strings.Replace(first, "8192", "8", 1) + "0\n", 1, api.ErrForm},
		{first + "\n", 2, api.ErrForm}, {first + "00\n", 2, api.ErrForm}, {first + "-1\n", 2, api.ErrForm}, {first + "1099511627777\n", 2, api.ErrForm}, {first + "x\ny\n", 2, api.ErrForm}, {first + "1 \n", 2, api.ErrForm}, {printed + "\n", 12, api.ErrForm}, {printed + "open 1\nopen 1\r\n", 13, api.ErrForm},
	} {
		if x, n, e := Parse(c.s); !reflect.DeepEqual(x, Script{}) || n != c.n || e != c.e {
			t.Errorf("%q: %d %d", c.s[:min(99, len(c.s))], n, e)
		}
	}
	for _, s := range []string{
		"", " ", "open", "open ", "open 16", "open 03", "open 3 ", "open 3.0", "open -1", "Open 3", "opens 3", "send 0.1", "send 0.1 ", "send 0.1 a", "send 0.1 \"a", "send 0.1  \"a\"", "send 0 \"a\"", "send 0.01 \"a\"", "send 0.1001 \"a\"", "send 0.1 \"\\41\"", "send 0.1 \"a\" ", "send 0.1 \"" + strings.Repeat("a", 4097) + "\"",
		"end 0", "end 0.0 ", "end 0.0 0", "end 0.", "end .0", "end 0.0.0", "read 0.0", "read 0.0 ", "read 0.0 x", "read 0.0 01", "read 0.0 1048577", "read 0.0 99999999999999999999", "grant 0 5", "grant 0.0 -1", "tick", "tick ", "tick 1073741825", "tick 0.0 5", "tick 5 5", "tick 0 ", "serve", "serve 0.0", "serve 0 0", "x 0", " open 0", "open  0", "tick\t0",
	} {
		if x, n, e := Parse(first + "0\ntick 1\n" + s + "\ny\n"); !reflect.DeepEqual(x, Script{}) || n != 4 || e != api.ErrForm {
			t.Errorf("%q: %d %d", s, n, e)
		}
	}
}

// P45.4
func TestThereAndBack(t *testing.T) {
	r := rand.New(rand.NewSource(31))
	for range 500 {
		x := Script{Config: config.Usual(), Now: r.Intn(1 << 40)}
		for range r.Intn(10) {
			b := make([]byte, r.Intn(20))
			r.Read(b)
			e := api.Event{Op: 1 + r.Intn(7), Conn: conn(r.Intn(17), r.Intn(3)*r.Intn(500)), N: r.Intn(3) * r.Intn(1000), Text: string(b[:len(b)*r.Intn(2)])}
			if act.Right(e) {
				x.Events = append(x.Events, e)
			}
		}
		if back, n, e := Parse(Print(x)); !reflect.DeepEqual(back, x) || n != 2+len(x.Events) || e != api.OK {
			t.Fatal(Print(x), back, n, e)
		}
	}
}
