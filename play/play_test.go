package play

import (
	"math/rand"
	"slices"
	"strings"
	"testing"

	"abutment/act"
	"abutment/api"
	"abutment/config"
	"abutment/proxy"
	"abutment/script"
)

func lines(s string) string { return strings.ReplaceAll(s, "|", "\r\n") }

func conn(client, origin int) api.Conn { return api.Conn{Client: client, Origin: origin} }

// usual is a script with usual settings, changed.
func usual(change func(c *api.Config), events ...api.Event) script.Script {
	c := config.Usual()
	if change != nil {
		change(&c)
	}
	return script.Script{Config: c, Events: events}
}

const (
	ask      = "GET / HTTP/1.1|Host: a||"
	asked    = "GET / HTTP/1.1|Host: a|Via: 1.1 abutment||"
	answer   = "HTTP/1.1 204 N||"
	answered = "HTTP/1.1 204 N|Via: 1.1 abutment||"
)

// P46.1
func TestBegin(t *testing.T) {
	for _, c := range []struct {
		x script.Script
		e api.Errno
	}{{script.Script{}, api.ErrName}, {usual(func(c *api.Config) { c.Queue = 0 }), api.ErrNum}, {usual(nil, api.Event{}), api.ErrArg}, {usual(nil, api.Event{Op: act.OpOpen}), api.OK}} {
		w, e := Begin(c.x)
		if (w != nil) != (c.e == api.OK) || e != c.e {
			t.Error(w, e)
		}
		if l, sents, e := Run(c.x); e != c.e || e != api.OK && (len(l) != 0 || len(sents) != 0) {
			t.Error(l, sents, e)
		}
		if sents, e := Whole(c.x); e != c.e || e != api.OK && len(sents) != 0 {
			t.Error(sents, e)
		}
		if len(w.Sents()) != 0 {
			t.Error("its events are played")
		}
	}
}

// steps are events, and what they tell in a world of two clients that are due in 10 ticks.
var steps = []struct {
	e    api.Event
	want string
}{
	{api.Event{Op: act.OpOpen}, "ok"}, {api.Event{Op: act.OpOpen}, "error 22"}, {api.Event{Op: act.OpOpen, Conn: conn(5, 0)}, "ok"}, {api.Event{Op: act.OpOpen, Conn: conn(6, 0)}, "error 20"}, {api.Event{Op: act.OpOpen, Conn: conn(16, 0)}, "error 1"}, {api.Event{}, "error 1"}, {api.Event{Op: 8}, "error 1"},
	{api.Event{Op: act.OpSend, Text: lines(ask)}, "27"}, {api.Event{Op: act.OpSend, Conn: conn(9, 9)}, "0"}, {api.Event{Op: act.OpRead, N: 5}, "5"}, {api.Event{Op: act.OpRead, N: 500}, "22"}, {api.Event{Op: act.OpRead, Conn: conn(0, 1), N: 5}, "0"}, {api.Event{Op: act.OpServe}, "yes"}, {api.Event{Op: act.OpServe}, "yes"}, {api.Event{Op: act.OpServe, Conn: conn(7, 0)}, "no"},
	{api.Event{Op: act.OpGrant, Conn: conn(0, 1), N: 5}, "0"}, {api.Event{Op: act.OpServe}, "yes"}, {api.Event{Op: act.OpGrant, Conn: conn(0, 1), N: 5}, "5"}, {api.Event{Op: act.OpServe}, "yes"}, {api.Event{Op: act.OpServe}, "no"}, {api.Event{Op: act.OpTick, N: 9}, "none"}, {api.Event{Op: act.OpEnd, Conn: conn(0, 1)}, "ok"}, {api.Event{Op: act.OpTick, N: 1}, "late 0 5"}, {api.Event{Op: act.OpTick}, "none"}, {api.Event{Op: act.OpTick, N: -1}, "error 1"},
}

// P46.1
func TestStep(t *testing.T) {
	x := usual(func(c *api.Config) { c.Idle, c.Clients = 10, 2 })
	w, _ := Begin(x)
	for i, s := range steps {
		if got := w.Step(s.e); got != s.want {
			t.Errorf("%d %v: %q, not %q", i, s.e, got, s.want)
		}
	}
}

// P46.1, P46.2: a nil world, and a plain one.
func TestNothing(t *testing.T) {
	for _, w := range []*World{nil, {}} {
		for op := range 9 {
			if got := w.Step(api.Event{Op: op}); got != "error 1" {
				t.Error(op, got)
			}
		}
		if w.Step(api.Event{Op: act.OpOpen}) != "error 1" || w.Step(api.Event{}) != "error 1" || w.Drain() != 0 || len(w.Sents()) != 0 {
			t.Error("nothing")
		}
	}
}

// P46.2
func TestRun(t *testing.T) {
	x := usual(nil, api.Event{Op: act.OpOpen, Conn: conn(3, 0)}, api.Event{Op: act.OpOpen}, api.Event{Op: act.OpSend, Text: lines(ask)}, api.Event{Op: act.OpSend, Conn: conn(0, 1), Text: lines(answer)}, api.Event{Op: act.OpEnd})
	l, sents, e := Run(x)
	if !slices.Equal(l, []string{"ok", "ok", "27", "18", "ok"}) || !slices.Equal(sents, []api.Sent{{}, {Conn: conn(3, 0)}}) || e != api.OK {
		t.Error(l, sents, e)
	}
	want := []api.Sent{{Text: lines(answered), Closed: true}, {Conn: conn(0, 1), Text: lines(asked), Closed: true}, {Conn: conn(3, 0)}}
	if sents, e := Whole(x); !slices.Equal(sents, want) || e != api.OK {
		t.Error(sents, e)
	}
	w, _ := Begin(x)
	for _, e := range x.Events {
		w.Step(e)
	}
	if n := w.Drain(); n < 1 || w.Drain() != 0 || !slices.Equal(w.Sents(), want) {
		t.Error(n, w.Sents())
	}
}

// P46.3, P46.4: what is told again, and what hangs on the octets alone.
func TestWhatFollows(t *testing.T) {
	r := rand.New(rand.NewSource(33))
	for range 200 {
		var events, bare []api.Event
		for client := range 3 {
			o := api.Event{Op: act.OpOpen, Conn: conn(client, 0)}
			events, bare = append(events, o), append(bare, o)
		}
		for range 60 {
			k := conn(r.Intn(3), r.Intn(3))
			e := api.Event{Op: act.OpSend + r.Intn(4), Conn: k}
			switch e.Op {
			case act.OpSend:
				e.Text = lines([]string{ask, "PUT / HTTP/1.1|Host: b|Content-Length: 2||xy", "G"}[r.Intn(20)/9])
				if k.Origin > 0 {
					e.Text = lines([]string{answer, "HTTP/1.0 200 OK||abc", "H"}[r.Intn(20)/9])
				}
				bare = append(bare, e)
			case act.OpEnd:
				if r.Intn(4) > 0 {
					continue
				}
				bare = append(bare, e)
			default:
				e.N = r.Intn(30)
			}
			events = append(events, e, api.Event{Op: act.OpServe, Conn: conn(r.Intn(3), 0)})
		}
		x := usual(func(c *api.Config) { c.Queue = 1 + r.Intn(40) }, events...)
		texts, sents, _ := Run(x)
		again, others, _ := Run(x)
		w, _ := Begin(x)
		p := proxy.New(x.Config, x.Now)
		for i, e := range events {
			if w.Step(e) != texts[i] {
				t.Fatal(i, e)
			}
		}
		if !slices.Equal(texts, again) || !slices.Equal(sents, others) || !slices.Equal(w.Sents(), sents) {
			t.Fatal("not the same")
		}
		for _, e := range bare {
			switch e.Op {
			case act.OpOpen:
				p.Open(e.Conn.Client)
			case act.OpSend:
				p.Send(e.Conn, e.Text)
			default:
				p.End(e.Conn)
			}
		}
		p.Drain(100000)
		whole, _ := Whole(x)
		var want []api.Sent
		for _, k := range p.Conns() {
			want = append(want, p.Sent(k))
		}
		if !slices.Equal(whole, want) {
			t.Fatalf("%v\n%v", whole, want)
		}
	}
}
