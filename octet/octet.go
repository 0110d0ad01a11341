// Package octet is layer 1: it tells octets apart (shared/doc/01-octet.md).
package octet

// marks are the signs that a token may have beside letters and digits.
const marks = "!#$%&'*+-.^_`|~"

// Tchar tells whether c may stand in a token.
func Tchar(c byte) bool {
	switch {
	case c >= '0' && c <= '9', c >= 'a' && c <= 'z', c >= 'A' && c <= 'Z':
		return true
	}
	for _, r := range marks {
		if rune(c) == r {
			return true
		}
	}
	return false
}

// Token tells whether s is one octet or more that may stand in a token.
func Token(s string) bool {
	return s != "" && each(s, func(r rune) bool { return r < 128 && Tchar(byte(r)) })
}

// Value tells whether s may be the value of a field.
func Value(s string) bool {
	return each(s, func(r rune) bool { return r == '\t' || r >= ' ' && r != 127 })
}

// Visible tells whether s is one octet or more that can be seen.
func Visible(s string) bool {
	return s != "" && each(s, func(r rune) bool { return r > ' ' && r < 127 })
}

// each tells whether all of s fits. Octets from 128 on come as runes from 128 on, however they stand, so no octet is taken for another kind.
func each(s string, fits func(r rune) bool) bool {
	for _, r := range s {
		if !fits(r) {
			return false
		}
	}
	return true
}

// Lower turns the letters A to Z small. Octets are turned in their places, so that those that are no text stay as they are.
func Lower(s string) string {
	var b []byte
	for i, r := range s {
		if r < 'A' || r > 'Z' {
			continue
		}
		if b == nil {
			b = []byte(s)
		}
		b[i] = byte(r) + 'a' - 'A'
	}
	if b == nil {
		return s
	}
	return string(b)
}

// Fold tells whether a and b are one but for the size of letters.
func Fold(a, b string) bool {
	return len(a) == len(b) && Lower(a) == Lower(b)
}

// Trim leaves out the blanks and tabs at both ends.
func Trim(s string) string {
	first, end := 0, 0
	begun := false
	for i, r := range s {
		if r == ' ' || r == '\t' {
			continue
		}
		if !begun {
			first, begun = i, true
		}
		end = i + 1
	}
	if !begun {
		return ""
	}
	// The octets of a rune that has several are no blanks, so the end moves on behind all of them.
	for end < len(s) && s[end] != ' ' && s[end] != '\t' {
		end++
	}
	return s[first:end]
}
