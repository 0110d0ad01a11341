package table

import (
	"math"
	"testing"
)

// P40.1
func TestNew(t *testing.T) {
	for _, most := range []int{-1, 1001, math.MaxInt, math.MinInt} {
		if New[int](most) != nil {
			t.Error(most)
		}
	}
	for _, most := range []int{0, 1, 1000} {
		if x := New[int](most); x == nil || x.Len() != 0 || x.Room() != most {
			t.Error(most)
		}
	}
}

// P40.1, P40.3
func TestSlots(t *testing.T) {
	x := New[string](2)
	put := func(s string, at int, ok bool) {
		t.Helper()
		if n, is := x.Put(s); n != at || is != ok {
			t.Errorf("%s: %d %v", s, n, is)
		}
	}
	get := func(at int, s string, ok bool) {
		t.Helper()
		if got, is := x.Get(at); got != s || is != ok {
			t.Errorf("%d: %s %v", at, got, is)
		}
	}
	put("a", 0, true)
	put("b", 1, true)
	put("c", 0, false)
	if x.Len() != 2 || x.Room() != 0 {
		t.Error("full")
	}
	get(0, "a", true)
	get(1, "b", true)
	get(2, "", false)
	get(-1, "", false)
	get(math.MaxInt, "", false)
	if !x.Drop(0) || x.Drop(0) || x.Drop(2) || x.Drop(-1) || x.Len() != 1 || x.Room() != 1 {
		t.Error("drop")
	}
	get(0, "", false)
	get(1, "b", true)
	put("c", 0, true)
	get(0, "c", true)
	get(1, "b", true)
}

// P40.1: the slots are told as they are when the range begins, as far as they are asked for.
func TestAll(t *testing.T) {
	x := New[string](4)
	for _, s := range []string{"a", "b", "c", "d"} {
		x.Put(s)
	}
	x.Drop(1)
	all := x.All()
	x.Drop(2)
	x.Put("e")
	told := ""
	for i, s := range all {
		told += string(rune('0'+i)) + s
		x.Drop(3)
		x.Put("f")
	}
	if told != "0a1e3d" {
		t.Error(told)
	}
	told = ""
	for i, s := range all {
		told += string(rune('0'+i)) + s
		if i == 1 {
			break
		}
	}
	if told != "0a1e" {
		t.Error(told)
	}
}

// P40.1: a nil one.
func TestNil(t *testing.T) {
	var x *Table[string]
	if at, ok := x.Put("a"); at != 0 || ok {
		t.Error("put")
	}
	if s, ok := x.Get(0); s != "" || ok || x.Drop(0) || x.Len() != 0 || x.Room() != 0 {
		t.Error("nil")
	}
	for range x.All() {
		t.Error("all")
	}
}

// P40.2
func TestPool(t *testing.T) {
	var p Pool[string, int]
	take := func(k string, x int, ok bool) {
		t.Helper()
		if got, is := p.Take(k); got != x || is != ok {
			t.Errorf("%s: %d %v", k, got, is)
		}
	}
	old := func(k string, x int, ok bool) {
		t.Helper()
		if key, got, is := p.Old(); key != k || got != x || is != ok {
			t.Errorf("%s %d %v", key, got, is)
		}
	}
	take("a", 0, false)
	old("", 0, false)
	p.Put("a", 1)
	p.Put("b", 2)
	p.Put("a", 3)
	p.Put("a", 4)
	p.Put("c", 5)
	if p.Len() != 5 {
		t.Error(p.Len())
	}
	take("a", 4, true)
	take("x", 0, false)
	old("a", 1, true)
	take("a", 3, true)
	take("a", 0, false)
	old("b", 2, true)
	if p.Len() != 1 {
		t.Error(p.Len())
	}
	p.Put("b", 6)
	old("c", 5, true)
	take("b", 6, true)
	old("", 0, false)
	if p.Len() != 0 {
		t.Error(p.Len())
	}
}

// P40.2: a nil one.
func TestNilPool(t *testing.T) {
	var p *Pool[int, string]
	p.Put(1, "a")
	x, ok := p.Take(1)
	k, y, is := p.Old()
	if x != "" || ok || k != 0 || y != "" || is || p.Len() != 0 {
		t.Error("nil")
	}
}
