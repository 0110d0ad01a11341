package refusal

import (
	"math"
	"reflect"
	"testing"

	"abutment/api"
	"abutment/start"
)

// P33.1, P33.3
func TestStatus(t *testing.T) {
	if Asker != 1 || Origin != 2 {
		t.Error("sides")
	}
	asker := map[api.Errno]int{api.ErrSlow: 408, api.ErrFull: 413, api.ErrExpect: 417, api.ErrLong: 431, api.ErrMethod: 501, api.ErrCoding: 501, api.ErrVersion: 505, api.ErrLoop: 508}
	for e := api.Errno(-2); e < 30; e++ {
		want := 400
		if n, ok := asker[e]; ok {
			want = n
		}
		if got := Status(Asker, e); got != want {
			t.Error(e, got)
		}
		want = 502
		if e == api.ErrSlow {
			want = 504
		}
		for _, side := range []int{Origin, 0, 3, -1, math.MaxInt} {
			if got := Status(side, e); got != want {
				t.Error(side, e, got)
			}
		}
		for _, side := range []int{Asker, Origin} {
			if n := Status(side, e); start.Reason(n) == "" || n < 400 || n > 599 {
				t.Error(n)
			}
		}
	}
}

// P33.2
func TestHead(t *testing.T) {
	const date = "Sun, 06 Nov 1994 08:49:37 GMT"
	tail := []api.Field{{Name: "Content-Length", Value: "0"}, {Name: "Connection", Value: "close"}}
	for _, c := range []struct {
		status, minor, now int
		want               api.Head
	}{
		{400, 1, 784111777, api.Head{Status: 400, Minor: 1, Reason: "Bad Request", Fields: append([]api.Field{{Name: "Date", Value: date}}, tail...)}}, {502, 0, math.MaxInt, api.Head{Status: 502, Reason: "Bad Gateway", Fields: tail}}, {999, -3, math.MinInt, api.Head{Status: 999, Fields: tail}}, {504, 9, math.MaxInt, api.Head{Status: 504, Minor: 1, Reason: "Gateway Timeout", Fields: tail}},
	} {
		if got := Head(c.status, c.minor, c.now); !reflect.DeepEqual(got, c.want) {
			t.Error(got)
		}
	}
	for minor, want := range map[int]int{-1: 0, 0: 0, 1: 1, 7: 1} {
		if got := Continue(minor); got.Status != 100 || got.Minor != want || got.Reason != "Continue" || len(got.Fields) != 0 || got.Method != "" || got.Target != "" {
			t.Error(got)
		}
	}
}
