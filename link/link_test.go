package link

import (
	"math"
	"math/rand"
	"testing"

	"abutment/api"
)

// P38.1
func TestNew(t *testing.T) {
	for _, most := range []int{-1, api.MaxQueue + 1, math.MinInt, math.MaxInt} {
		if New(most) != nil {
			t.Error(most)
		}
	}
	for _, most := range []int{0, 1, api.MaxQueue} {
		if k := New(most); k == nil || !k.Live() || !k.Free() || k.Over() || k.Dry() || k.Left() != "" || k.Waits() != 0 {
			t.Error(most)
		}
	}
}

// P38.1
func TestComing(t *testing.T) {
	k := New(3)
	if k.Give("abcd") != 3 || k.Give("x") != 0 || k.Left() != "abc" || k.Left() != "abc" {
		t.Error(k.Left())
	}
	k.Use(0)
	k.Use(-1)
	k.Use(2)
	if k.Left() != "c" || k.Give("de") != 2 || k.Left() != "cde" {
		t.Error(k.Left())
	}
	k.Use(1)
	k.End()
	if k.Give("f") != 0 || k.Left() != "de" || k.Dry() || !k.Live() {
		t.Error("end")
	}
	k.Use(math.MaxInt)
	if !k.Dry() || k.Left() != "" || k.Over() || !k.Free() {
		t.Error("dry")
	}
	k.Write("x")
	if k.Take(5) != "x" {
		t.Error("write behind End")
	}
}

// P38.2
func TestGoing(t *testing.T) {
	k := New(2)
	k.Write("xy")
	if !k.Free() || k.Waits() != 2 {
		t.Error("free")
	}
	k.Write("z")
	if k.Free() || k.Waits() != 3 || k.Take(0) != "" || k.Take(-4) != "" || k.Take(1) != "x" || !k.Free() {
		t.Error("not free")
	}
	k.Give("ab")
	k.Shut()
	if k.Live() || k.Over() || k.Left() != "" || k.Give("c") != 0 || k.Dry() {
		t.Error("shut")
	}
	k.Write("more")
	k.Shut()
	if k.Waits() != 2 || k.Take(math.MaxInt) != "yz" || !k.Over() || k.Waits() != 0 || k.Take(1) != "" || k.Live() {
		t.Error("over")
	}
	n := New(2)
	n.Shut()
	if !n.Over() || n.Live() || !n.Free() {
		t.Error("at once")
	}
}

// P38.2: a nil one, and a plain one.
func TestNothing(t *testing.T) {
	for _, k := range []*Link{nil, {}} {
		k.End()
		k.Use(1)
		k.Write("a")
		if k.Give("a") != 0 || k.Left() != "" || k.Dry() || k.Free() || k.Waits() != 0 || k.Take(1) != "" || k.Over() || k.Live() {
			t.Error("nothing")
		}
		k.Shut()
		k.End()
		if k.Over() || k.Live() || k.Dry() || k.Free() {
			t.Error("shut")
		}
	}
	k := New(0)
	if !k.Free() || k.Give("a") != 0 {
		t.Error("no room")
	}
	k.Write("a")
	if k.Free() || k.Take(1) != "a" || !k.Free() {
		t.Error("no room")
	}
}

// P38.3
func TestInOrder(t *testing.T) {
	r := rand.New(rand.NewSource(17))
	for range 200 {
		k := New(1 + r.Intn(8))
		var given, used, written, gone string
		for range 100 {
			b := make([]byte, r.Intn(6))
			r.Read(b)
			switch r.Intn(4) {
			case 0:
				given += string(b[:k.Give(string(b))])
			case 1:
				n := min(r.Intn(4), len(k.Left()))
				used += k.Left()[:n]
				k.Use(n)
			case 2:
				k.Write(string(b))
				written += string(b)
			case 3:
				gone += k.Take(r.Intn(7))
			}
			if used+k.Left() != given || len(gone)+k.Waits() != len(written) || written[:len(gone)] != gone {
				t.Fatal("order")
			}
		}
	}
}
