package digits

import (
	"math"
	"math/rand"
	"strconv"
	"strings"
	"testing"

	"abutment/api"
)

// P2.1
func TestDec(t *testing.T) {
	for _, c := range []struct {
		s    string
		most int
		n    int
		e    api.Errno
	}{
		{"", 9, 0, api.ErrEnd}, {"", -1, 0, api.ErrEnd}, {"x", 9, 0, api.ErrForm}, {"1x", 9, 0, api.ErrForm}, {"-1", 9, 0, api.ErrForm},
		{"+1", 9, 0, api.ErrForm}, {" 1", 9, 0, api.ErrForm}, {"1 ", 9, 0, api.ErrForm}, {"a", 99, 0, api.ErrForm}, {"1_0", 99, 0, api.ErrForm}, {"٣", 9, 0, api.ErrForm}, {"\xff", 9, 0, api.ErrForm},
		{"999999999999999999999999999x", 9, 0, api.ErrForm}, {"99999999999999999999999", math.MaxInt, 0, api.ErrNum},
		{"0", 0, 0, api.OK}, {"0", -1, 0, api.ErrNum}, {"007", 7, 7, api.OK}, {"007", 6, 0, api.ErrNum}, {"10", 9, 0, api.ErrNum}, {"10", 10, 10, api.OK},
		{"9223372036854775807", math.MaxInt, math.MaxInt, api.OK}, {"9223372036854775808", math.MaxInt, 0, api.ErrNum}, {"9223372036854775807", math.MaxInt - 1, 0, api.ErrNum},
		{"18446744073709551617", math.MaxInt, 0, api.ErrNum}, {strings.Repeat("0", 100) + "5", 5, 5, api.OK}, {"0123456789", math.MaxInt, 123456789, api.OK},
	} {
		if n, e := Dec(c.s, c.most); n != c.n || e != c.e {
			t.Errorf("%q %d: %d %d", c.s, c.most, n, e)
		}
	}
}

// P2.1
func TestHex(t *testing.T) {
	for _, c := range []struct {
		s    string
		most int
		n    int
		e    api.Errno
	}{
		{"", 9, 0, api.ErrEnd}, {"g", 99, 0, api.ErrForm}, {"0x1", 99, 0, api.ErrForm}, {"1G", 9, 0, api.ErrForm}, {"1f", 100, 31, api.OK}, {"1F", 31, 31, api.OK}, {"1F", 30, 0, api.ErrNum},
		{"abcdef", math.MaxInt, 0xabcdef, api.OK}, {"ABCDEF", math.MaxInt, 0xabcdef, api.OK}, {"0123456789", math.MaxInt, 0x123456789, api.OK}, {"`", 9, 0, api.ErrForm}, {"@", 9, 0, api.ErrForm}, {":", 9, 0, api.ErrForm}, {"/", 9, 0, api.ErrForm},
		{"7fffffffffffffff", math.MaxInt, math.MaxInt, api.OK}, {"8000000000000000", math.MaxInt, 0, api.ErrNum}, {"10000000000000001", math.MaxInt, 0, api.ErrNum}, {"fffffffffffffffffffz", 1, 0, api.ErrForm},
		{strings.Repeat("0", 50) + "a", 10, 10, api.OK}, {"0", -5, 0, api.ErrNum},
	} {
		if n, e := Hex(c.s, c.most); n != c.n || e != c.e {
			t.Errorf("%q %d: %d %d", c.s, c.most, n, e)
		}
	}
}

// P2.2
func TestWrite(t *testing.T) {
	for _, n := range []int{0, 1, 9, 10, 11, 99, 100, 255, 256, 4096, math.MaxInt, -1, -10, math.MinInt, math.MinInt + 1} {
		if got := Text(n); got != strconv.Itoa(n) {
			t.Error(n, got)
		}
		want := ""
		if n >= 0 {
			want = strconv.FormatInt(int64(n), 16)
		}
		if got := HexText(n); got != want {
			t.Error(n, got)
		}
	}
}

// P2.2
func TestPad(t *testing.T) {
	for _, c := range []struct {
		n, wide int
		want    string
	}{
		{7, 2, "07"}, {7, 1, "7"}, {7, 0, "7"}, {7, -3, "7"}, {0, 0, "0"}, {0, 3, "000"}, {123, 2, "123"}, {-7, 4, "-7"}, {5, 20, "00000000000000000005"}, {5, 21, "00000000000000000005"},
		{5, math.MaxInt, "00000000000000000005"}, {5, math.MinInt, "5"}, {math.MaxInt, 20, "09223372036854775807"}, {math.MinInt, 30, "-9223372036854775808"},
	} {
		if got := Pad(c.n, c.wide); got != c.want {
			t.Errorf("%d %d: %q", c.n, c.wide, got)
		}
	}
}

// P2.3
func TestThereAndBack(t *testing.T) {
	r := rand.New(rand.NewSource(2))
	for range 20000 {
		n := int(r.Uint64() >> (1 + r.Intn(63)))
		most := n + r.Intn(5)
		if most < n {
			most = n
		}
		for _, s := range []string{Text(n), Pad(n, r.Intn(25))} {
			if m, e := Dec(s, most); m != n || e != api.OK {
				t.Fatal(n, s, m, e)
			}
			if m, e := Dec(s, n-1); m != 0 || e != api.ErrNum {
				t.Fatal(n, s, m, e)
			}
		}
		if m, e := Hex(HexText(n), most); m != n || e != api.OK {
			t.Fatal(n, m, e)
		}
		if m, e := Hex(strings.ToUpper(HexText(n)), n-1); m != 0 || e != api.ErrNum {
			t.Fatal(n, m, e)
		}
	}
}
