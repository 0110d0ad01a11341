package drill

import (
	"math"
	"reflect"
	"testing"

	"abutment/act"
	"abutment/api"
	"abutment/audit"
	"abutment/message"
	"abutment/play"
	"abutment/script"
)

// P52.1
func TestDice(t *testing.T) {
	d := New(0)
	for i, want := range []uint64{16294208416658607535, 7960286522194355700, 487617019471545679, 17909611376780542444} {
		if got := d.Next(); got != want {
			t.Error(i, got)
		}
	}
	for seed, want := range map[int]uint64{1234567: 6457827717110365317, -1: 16490336266968443936} {
		if got := New(seed).Next(); got != want {
			t.Error(seed, got)
		}
	}
	a, b := New(5), New(5)
	for i := range 1000 {
		n := 1 + i*i
		want := int(a.Next() % uint64(n))
		if got := b.Below(n); got != want || got < 0 || got >= n {
			t.Error(n, got, want)
		}
	}
	for _, n := range []int{0, -1, math.MinInt} {
		if b.Below(n) != 0 {
			t.Error(n)
		}
	}
	if a.Next() != b.Next() { // nothing was drawn
		t.Error("drawn")
	}
	var none *Dice
	if none.Next() != 0 || none.Below(5) != 0 {
		t.Error("nil")
	}
}

// sent is what the peers of a script send, on each connection.
func sent(x script.Script) map[api.Conn]string {
	texts := map[api.Conn]string{}
	for _, e := range x.Events {
		if e.Op == act.OpSend {
			texts[e.Conn] += e.Text
		}
	}
	return texts
}

// asked holds the requests of a script against what it may have, and tells them by clients.
func asked(t *testing.T, x script.Script, size int) map[int][]api.Message {
	t.Helper()
	opened := map[int]bool{}
	for _, e := range x.Events {
		switch e.Op {
		case act.OpOpen:
			opened[e.Conn.Client] = true
		case act.OpTick:
			t.Error("a tick")
		}
	}
	if script.Right(x) != api.OK || x.Config.Share != 0 || x.Config.Idle != 0 || x.Config.Origins < x.Config.Clients || len(opened) < 1 || len(opened) > x.Config.Clients {
		t.Error("not right", x.Config, opened)
	}
	all := map[int][]api.Message{}
	n := 0
	for k, s := range sent(x) {
		if !opened[k.Client] {
			t.Error("not opened", k)
		}
		if k.Origin > 0 {
			continue
		}
		l, tail := message.Requests(s, true, x.Config.Limits)
		if len(l) < 1 || len(l) > 4 || tail != (api.Tail{}) {
			t.Error(k, len(l), tail)
		}
		all[k.Client] = l
		n += len(l)
	}
	if n < 1 || n > max(1, min(size, 12)) {
		t.Error("requests", n, "of", size)
	}
	return all
}

// P52.2, P52.3
func TestScript(t *testing.T) {
	total, most := 0, 0
	ops := map[int]int{}
	for seed := -300; seed < 300; seed++ {
		size := seed%20 - 3
		x := Script(seed, size)
		requests := asked(t, x, size)
		if !reflect.DeepEqual(x, Script(seed, size)) {
			t.Fatal(seed, "not the same again")
		}
		for _, e := range x.Events {
			ops[e.Op]++
		}
		sents, e := play.Whole(x)
		if e != api.OK {
			t.Fatal(seed, e)
		}
		texts := sent(x)
		records := map[int][]audit.Record{}
		for _, s := range sents {
			records[s.Conn.Client] = append(records[s.Conn.Client], audit.Record{In: texts[s.Conn], Out: s.Text, Shut: s.Closed})
		}
		told := 0
		for client, l := range requests {
			told += len(l)
			r := records[client]
			if s := sents[0]; s.Closed {
				t.Error(seed, "a client's connection ends")
			}
			got := audit.Client(x.Config, r[0], r[1:]...)
			if got != (audit.Report{Asked: len(l), Passed: len(l), Answered: len(l)}) {
				t.Fatalf("%d %d: %+v of %d", seed, client, got, len(l))
			}
			for _, o := range r[1:] { // all that was sent was asked for
				m, _ := message.Requests(o.Out, false, audit.Wide())
				var methods []string
				for _, q := range m {
					methods = append(methods, q.Head.Method)
				}
				answers, tail := message.Responses(o.In, true, methods, x.Config.Limits)
				if len(answers) != len(m) || tail != (api.Tail{}) {
					t.Fatal(seed, client, tail)
				}
				for _, a := range answers {
					if a.Head.Status < 200 {
						t.Error(a.Head)
					}
				}
			}
			delete(records, client)
		}
		total += told
		most = max(most, told)
		for k := range texts {
			if k.Origin > 0 {
				found := false
				for _, s := range sents {
					found = found || s.Conn == k
				}
				if !found {
					t.Fatal(seed, "sent on a connection that isn't opened", k)
				}
			}
		}
	}
	if total < 1000 || most < 8 || ops[act.OpRead] == 0 || ops[act.OpGrant] == 0 || ops[act.OpServe] == 0 {
		t.Error(total, most, ops)
	}
	if reflect.DeepEqual(Script(1, 5), Script(2, 5)) {
		t.Error("all seeds are alike")
	}
	for _, size := range []int{math.MinInt, 0, 1} {
		asked(t, Script(9, size), 1)
	}
	asked(t, Script(math.MinInt, math.MaxInt), 12)
}
