package wire

import (
	"math"
	"math/rand"
	"strings"
	"testing"

	"abutment/api"
	"abutment/link"
)

// P42.1
func TestSend(t *testing.T) {
	w := New()
	if w.Left() != 0 || w.Sent() != "" || w.Send("abc") != 3 || w.Left() != 3 || w.Send("") != 0 {
		t.Error("send")
	}
	if n := w.Send(strings.Repeat("x", api.MaxBody)); n != api.MaxBody-3 || w.Left() != api.MaxBody || w.Send("y") != 0 {
		t.Error(n)
	}
	k := link.New(10)
	if w.Read(k, 5) != 5 || w.Left() != api.MaxBody-5 || w.Send("y") != 0 {
		t.Error("in all")
	}
	v := New()
	v.Send("a")
	v.End()
	if v.Send("b") != 0 || v.Left() != 1 {
		t.Error("behind End")
	}
}

// P42.2
func TestRead(t *testing.T) {
	w, k := New(), link.New(4)
	w.Send("abcdefg")
	if w.Read(k, 2) != 2 || k.Left() != "ab" || w.Read(k, 0) != 0 || w.Read(k, -1) != 0 || w.Read(k, math.MinInt) != 0 {
		t.Error(k.Left())
	}
	if w.Read(k, math.MaxInt) != 2 || k.Left() != "abcd" || w.Left() != 3 || w.Read(k, 1) != 0 {
		t.Error(k.Left())
	}
	w.End()
	k.Use(4)
	if w.Read(k, 2) != 2 || k.Left() != "ef" {
		t.Error(k.Left())
	}
	k.Use(2)
	if k.Dry() || w.Read(k, 0) != 0 || k.Dry() {
		t.Error("too early")
	}
	if w.Read(k, 1) != 1 || k.Left() != "g" || k.Give("x") != 0 {
		t.Error("end")
	}
	k.Use(1)
	if !k.Dry() {
		t.Error("dry")
	}
	v, j := New(), link.New(4)
	v.End()
	if v.Read(j, 0) != 0 || !j.Dry() {
		t.Error("end at once")
	}
	shut := link.New(4)
	shut.Shut()
	u := New()
	u.Send("a")
	if u.Read(shut, 1) != 0 || u.Left() != 1 {
		t.Error("shut")
	}
}

// P42.2
func TestGrant(t *testing.T) {
	w, k := New(), link.New(4)
	k.Write("abcdef")
	if w.Grant(k, 2) != 2 || w.Sent() != "ab" || w.Grant(k, 0) != 0 || w.Grant(k, -3) != 0 || w.Grant(k, 9) != 4 || w.Sent() != "abcdef" || w.Grant(k, 1) != 0 {
		t.Error(w.Sent())
	}
	k.Write("g")
	k.Shut()
	if w.Grant(k, math.MaxInt) != 1 || w.Sent() != "abcdefg" || !k.Over() {
		t.Error(w.Sent())
	}
}

// P42.2: nil ones.
func TestNil(t *testing.T) {
	var w *Wire
	k := link.New(4)
	k.Write("a")
	w.End()
	if w.Send("a") != 0 || w.Read(k, 1) != 0 || w.Grant(k, 1) != 0 || w.Sent() != "" || w.Left() != 0 || k.Left() != "" || k.Waits() != 1 {
		t.Error("nil")
	}
	v := New()
	v.Send("a")
	if v.Read(nil, 1) != 0 || v.Grant(nil, 1) != 0 || v.Left() != 1 || v.Sent() != "" {
		t.Error("nil link")
	}
}

// P42.3
func TestInOrder(t *testing.T) {
	r := rand.New(rand.NewSource(20))
	for range 200 {
		w, k := New(), link.New(1+r.Intn(9))
		var sent, read, written string
		for range 60 {
			b := make([]byte, r.Intn(6))
			r.Read(b)
			switch r.Intn(4) {
			case 0:
				sent += string(b[:w.Send(string(b))])
			case 1:
				w.Read(k, r.Intn(6)-1)
				read += k.Left()
				k.Use(len(k.Left()))
			case 2:
				k.Write(string(b))
				written += string(b)
			case 3:
				w.Grant(k, r.Intn(6)-1)
			}
			if sent[:len(read)] != read || len(read)+w.Left() != len(sent) || written[:len(w.Sent())] != w.Sent() || len(w.Sent())+k.Waits() != len(written) {
				t.Fatal("order")
			}
		}
	}
}
