// Package digits is layer 2: it reads and writes numbers (shared/doc/02-digits.md).
package digits

import (
	"math"

	"abutment/api"
)

// signs are the digits to the base 16.
const signs = "0123456789abcdef"

// wideMost is how wide a number is padded at most.
const wideMost = 20

// Dec reads a number to the base 10 that is at most most.
func Dec(s string, most int) (int, api.Errno) { return read(s, 10, most) }

// Hex reads a number to the base 16 that is at most most.
func Hex(s string, most int) (int, api.Errno) { return read(s, 16, most) }

// read goes on to the end even of a number that is too great: a wrong form is told ahead of that.
func read(s string, base, most int) (int, api.Errno) {
	if s == "" {
		return 0, api.ErrEnd
	}
	n, great := 0, false
	for _, r := range s {
		d := digit(r)
		if d < 0 || d >= base {
			return 0, api.ErrForm
		}
		if n > (math.MaxInt-d)/base {
			great = true
		}
		if !great {
			n = n*base + d
		}
	}
	if great || n > most {
		return 0, api.ErrNum
	}
	return n, api.OK
}

// digit is the number that a digit stands for, -1 if it is none.
func digit(r rune) int {
	switch {
	case r >= '0' && r <= '9':
		return int(r - '0')
	case r >= 'a' && r <= 'f':
		return int(r-'a') + 10
	case r >= 'A' && r <= 'F':
		return int(r-'A') + 10
	}
	return -1
}

// Text writes n to the base 10.
func Text(n int) string {
	if n < 0 {
		return "-" + write(-uint64(n), 10, 1) // the least number has no other sign's fellow, but this many units
	}
	return write(uint64(n), 10, 1)
}

// HexText writes n to the base 16, nothing if it is below 0.
func HexText(n int) string {
	if n < 0 {
		return ""
	}
	return write(uint64(n), 16, 1)
}

// Pad writes n with noughts ahead, up to wide digits.
func Pad(n, wide int) string {
	if n < 0 {
		return Text(n)
	}
	return write(uint64(n), 10, max(1, min(wide, wideMost)))
}

// write fills the row from its end on: the last digit is known first.
func write(n, base uint64, wide int) string {
	var row [wideMost]byte
	at := len(row)
	for n > 0 || len(row)-at < wide {
		at--
		row[at] = signs[n%base]
		n /= base
	}
	return string(row[at:])
}
