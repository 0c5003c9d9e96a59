package token

import "strings"

const (
	comment = "--"
	// No capitals: numbers are read in just the form in which they are told.
	hexDigits = "0123456789abcdef"
)

func standsAt(text string, at int, what string) bool {
	return strings.HasPrefix(text[at:], what)
}

func behindBlanks(text string, at int) int {
blanks:
	for at < len(text) {
		switch text[at] {
		case '\t', '\n', '\r', ' ':
			at++
		default:
			break blanks
		}
	}
	return at
}

// The line feed is left where it is: it is a blank like others.
func lineEnd(text string, at int) int {
	for at < len(text) && text[at] != '\n' {
		at++
	}
	return at
}

func runEnd(text string, at int, belongs func(b byte) bool) int {
	for at < len(text) && belongs(text[at]) {
		at++
	}
	return at
}

func isDigit(b byte) bool {
	return b >= '0' && b <= '9'
}

func isHexDigit(b byte) bool {
	return isDigit(b) || b >= 'a' && b <= 'f'
}

func beginsName(b byte) bool {
	return b >= 'a' && b <= 'z' || b >= 'A' && b <= 'Z' || b == '_'
}

func isOfName(b byte) bool {
	return beginsName(b) || isDigit(b)
}

// Few digits alone come here, so that the number has room in an int.
func numberOf(digits string, base int) int {
	n := 0
	for i := range len(digits) {
		n = base*n + strings.IndexByte(hexDigits, digits[i])
	}
	return n
}
