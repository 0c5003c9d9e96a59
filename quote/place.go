package quote

import (
	"iter"
	"strings"

	"harrow/api"
)

// A spot is where a character begins, or where the text ends. A byte 10 is a character here, too, and begins just where its line ends: so each line has as many columns as it has characters, and one more.
type spot struct {
	at, line, column int
}

// The whole text is gone over at once: a byte 10 is never within a character, so its lines' characters are just the text's.
func spots(t string) iter.Seq[spot] {
	return func(yield func(spot) bool) {
		line, column := 1, 1
		for at, char := range t {
			if !yield(spot{at, line, column}) {
				return
			}
			line, column = behind(char, line, column)
		}
		yield(spot{len(t), line, column})
	}
}

func behind(char rune, line, column int) (int, int) {
	if char == '\n' {
		return line + 1, 1
	}
	return line, column + 1
}

func Place(t string, at int) (line, column int, e api.Errno) {
	if e := checkPlace(t, at); e != api.OK {
		return 0, 0, e
	}
	var last spot
	for s := range spots(t) {
		if s.at > at {
			break
		}
		last = s
	}
	return last.line, last.column, api.OK
}

func At(t string, line, column int) (int, api.Errno) {
	if len(t) > api.MaxText {
		return 0, api.ErrLong
	}
	for s := range spots(t) {
		if s.line == line && s.column == column {
			return s.at, api.OK
		}
	}
	return 0, api.ErrRange
}

func Lines(t string) (int, api.Errno) {
	if len(t) > api.MaxText {
		return 0, api.ErrLong
	}
	return strings.Count(t, "\n") + 1, api.OK
}

func Line(t string, n int) (string, api.Errno) {
	from, e := At(t, n, 1)
	if e != api.OK {
		return "", e
	}
	line, _, _ := strings.Cut(t[from:], "\n")
	// By way of bytes: the line alone would share the text's memory.
	return string([]byte(line)), api.OK
}

func checkPlace(t string, at int) api.Errno {
	if len(t) > api.MaxText {
		return api.ErrLong
	}
	if at < 0 || at > len(t) {
		return api.ErrRange
	}
	return api.OK
}
