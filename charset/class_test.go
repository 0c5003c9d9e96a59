package charset_test

import (
	"strings"
	"testing"

	"harrow/api"
	"harrow/charset"
)

const (
	smallLetters   = "abcdefghijklmnopqrstuvwxyz"
	capitalLetters = "ABCDEFGHIJKLMNOPQRSTUVWXYZ"
	digits         = "0123456789"
	punctuation    = "!\"#$%&'()*+,-./:;<=>?@[\\]^_`{|}~"
	controls       = "\x00\x01\x02\x03\x04\x05\x06\x07\x08\x09\x0a\x0b\x0c\x0d\x0e\x0f" +
		"\x10\x11\x12\x13\x14\x15\x16\x17\x18\x19\x1a\x1b\x1c\x1d\x1e\x1f\x7f"
)

func classBytes() map[byte]string {
	return map[byte]string{
		'a': smallLetters + capitalLetters,
		'c': controls,
		'd': digits,
		'g': smallLetters + capitalLetters + digits + punctuation,
		'l': smallLetters,
		'p': punctuation,
		's': "\t\n\v\f\r ",
		'u': capitalLetters,
		'w': smallLetters + capitalLetters + digits,
		'x': digits + "abcdefABCDEF",
	}
}

// 1.5: every letter there is, of a class or of none.
func TestClass(t *testing.T) {
	classes := classBytes()
	for letter := range 256 {
		s, e := charset.Class(byte(letter))
		small, isSmall := classes[byte(letter)]
		others, isCapital := "", false
		if letter >= 'A' && letter <= 'Z' {
			others, isCapital = classes[byte(letter)+32]
		}
		switch {
		case isSmall:
			sameMembers(t, "Class "+string(rune(letter)), s, func(b int) bool { return strings.IndexByte(small, byte(b)) >= 0 })
		case isCapital:
			sameMembers(t, "Class "+string(rune(letter)), s, func(b int) bool { return strings.IndexByte(others, byte(b)) < 0 })
		case s != (api.Set{}):
			t.Errorf("Class(%d) has bytes", letter)
		}
		want := api.OK
		if !isSmall && !isCapital {
			want = api.ErrClass
		}
		if e != want {
			t.Errorf("Class(%d): %v, want %v", letter, e, want)
		}
	}
}

// 1.5
func TestFold(t *testing.T) {
	for _, s := range samples() {
		m := bitsOf(s)
		sameMembers(t, "Fold", charset.Fold(s), func(b int) bool {
			if i := strings.IndexByte(smallLetters, byte(b)); i >= 0 {
				return m[b] || m[capitalLetters[i]]
			}
			if i := strings.IndexByte(capitalLetters, byte(b)); i >= 0 {
				return m[b] || m[smallLetters[i]]
			}
			return m[b]
		})
	}
	if got := charset.Bytes(charset.Fold(charset.Of("aQ@[`{\xc3\xe9"))); got != "@AQ[`aq{\xc3\xe9" {
		t.Errorf("Fold: %q", got)
	}
}
