// Package octet is layer 1: see shared/doc/01-octet.md.
package octet

import "strings"

// class tells whether a byte belongs to it.
type class func(c byte) bool

// span makes the class of the bytes from first to last, both included.
func span(first, last byte) class {
	return func(c byte) bool { return first <= c && c <= last }
}

// set makes the class of the bytes that a text consists of.
func set(members string) class {
	return func(c byte) bool { return strings.IndexByte(members, c) >= 0 }
}

// in tells whether a byte belongs to at least one of the classes.
func in(c byte, classes ...class) bool {
	for _, belongs := range classes {
		if belongs(c) {
			return true
		}
	}
	return false
}

// every tells whether all bytes of a text belong to a class.
func every(s string, belongs class) bool {
	for i := range len(s) {
		if !belongs(s[i]) {
			return false
		}
	}
	return true
}

// Token tells whether a byte may stand in a token.
func Token(c byte) bool {
	return in(c, span('a', 'z'), span('A', 'Z'), span('0', '9'), set("!#$%&'*+-.^_`|~"))
}

// Text tells whether a byte may stand in a value.
func Text(c byte) bool {
	return in(c, span(9, 9), span(32, 126), span(128, 255))
}

// Digit tells whether a byte is a digit.
func Digit(c byte) bool {
	return in(c, span('0', '9'))
}

// Hex answers a hexadecimal digit's number.
func Hex(c byte) (int, bool) {
	switch {
	case Digit(c):
		return int(c - '0'), true
	case in(c, span('a', 'f')):
		return int(c-'a') + 10, true
	case in(c, span('A', 'F')):
		return int(c-'A') + 10, true
	}
	return 0, false
}

// Lower makes letters small. The library's function of that purpose reads
// runes and changes bytes beyond A to Z.
func Lower(s string) string {
	b := []byte(s)
	for i, c := range b {
		if in(c, span('A', 'Z')) {
			b[i] = c + ('a' - 'A')
		}
	}
	return string(b)
}

// Same tells whether two texts are alike but for great and small letters.
// As Lower keeps the length, texts of different lengths need no copies.
func Same(a string, b string) bool {
	return len(a) == len(b) && Lower(a) == Lower(b)
}

// Trim takes blanks off both ends.
func Trim(s string) string {
	first, end := 0, len(s)
	for first < end && blank(s[first]) {
		first++
	}
	for first < end && blank(s[end-1]) {
		end--
	}
	return s[first:end]
}

// blank tells whether Trim takes a byte off.
func blank(c byte) bool {
	return in(c, set(" \t"))
}

// IsToken tells whether a text is a token.
func IsToken(s string) bool {
	return s != "" && every(s, Token)
}

// IsText tells whether a text may be a value.
func IsText(s string) bool {
	return every(s, Text)
}

// Cut cuts a text at the first of a byte's places, which goes to neither part.
func Cut(s string, by byte) (string, string, bool) {
	if i := strings.IndexByte(s, by); i >= 0 {
		return s[:i], s[i+1:], true
	}
	return s, "", false
}
