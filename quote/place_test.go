package quote_test

import (
	"math"
	"strings"
	"testing"
	"unicode/utf8"
	"unsafe"

	"harrow/api"
	"harrow/quote"
)

// Where the line's characters end, told by their lengths in place of a range.
func endsOf(line string) []int {
	var ends []int
	for at := 0; at < len(line); {
		_, n := utf8.DecodeRuneInString(line[at:])
		at += n
		ends = append(ends, at)
	}
	return ends
}

func wantedPlace(t string, at int) (int, int) {
	line := strings.Count(t[:at], "\n")
	from := strings.LastIndex(t[:at], "\n") + 1
	column := 1
	for _, end := range endsOf(strings.Split(t, "\n")[line]) {
		if from+end <= at {
			column++
		}
	}
	return line + 1, column
}

func wantedAt(t string, line, column int) (int, api.Errno) {
	lines := strings.Split(t, "\n")
	if line < 1 || line > len(lines) {
		return 0, api.ErrRange
	}
	from := len(strings.Join(lines[:line-1], "\n"))
	if line > 1 {
		from++
	}
	begins := append([]int{0}, endsOf(lines[line-1])...)
	if column < 1 || column > len(begins) {
		return 0, api.ErrRange
	}
	return from + begins[column-1], api.OK
}

// Characters of one to four bytes, their beginnings, bytes that are none of UTF-8's, and much that only looks like a character: too long a form, a half of a pair, a number above the last one.
func placeTexts() []string {
	texts := textsOf([]string{"a", "\n", "\r", "\xce", "\xb1", "\xe2", "\x82", "\xac", "\xf0\x9f", "\xff", "\uFFFD", "\x00"}, 4)
	return append(texts,
		"a\xce\xb1b\nc",
		"\U0001F600x\n\U0001F600",
		"\xf0\x9f\x98\x80\xf0\x9f\x98\n\x80",
		"\xc0\x80\n\xed\xa0\x80\n\xf4\x90\x80\x80",
		"\u0080\u07ff\u0800\uffff\U00010000\U0010ffff",
		"e\u0301\u2028\u0085\v\f\r\n",
		strings.Repeat("ab\xce\xb1\n", 50),
		strings.Repeat("\n", 50),
	)
}

// Q4
func TestPlace(t *testing.T) {
	for _, text := range placeTexts() {
		for at := range len(text) + 1 {
			line, column, e := quote.Place(text, at)
			wline, wcolumn := wantedPlace(text, at)
			if line != wline || column != wcolumn || e != api.OK {
				t.Errorf("Place(%q, %d): %d, %d, %v, want %d, %d", text, at, line, column, e, wline, wcolumn)
			}
		}
	}
}

// Q4: the document's places, written out.
func TestPlaceOfExamples(t *testing.T) {
	for _, c := range []struct {
		t                string
		at, line, column int
	}{
		{"", 0, 1, 1},
		{"\n", 0, 1, 1},
		{"\n", 1, 2, 1},
		{"\n\n\n", 2, 3, 1},
		{"\n\n\n", 3, 4, 1},
		{"ab\n", 2, 1, 3},
		{"ab\n", 3, 2, 1},
		{"a\xce\xb1b\nc", 0, 1, 1},
		{"a\xce\xb1b\nc", 1, 1, 2},
		{"a\xce\xb1b\nc", 2, 1, 2},
		{"a\xce\xb1b\nc", 3, 1, 3},
		{"a\xce\xb1b\nc", 4, 1, 4},
		{"a\xce\xb1b\nc", 5, 2, 1},
		{"a\xce\xb1b\nc", 6, 2, 2},
		{"\xe2\x82\xac!", 2, 1, 1},
		{"\xe2\x82\xac!", 3, 1, 2},
		{"\xf0\x9f\x98\x80!", 3, 1, 1},
		{"\xf0\x9f\x98\x80!", 4, 1, 2},
		{"\xe2\x82\n\xac", 1, 1, 2},
		{"\xe2\x82\n\xac", 2, 1, 3},
		{"\xe2\x82\n\xac", 4, 2, 2},
		{"\xff\xfe", 1, 1, 2},
		{"\xff\xfe", 2, 1, 3},
		{"a\rb\x00c", 5, 1, 6},
	} {
		if line, column, e := quote.Place(c.t, c.at); line != c.line || column != c.column || e != api.OK {
			t.Errorf("Place(%q, %d): %d, %d, %v, want %d, %d", c.t, c.at, line, column, e, c.line, c.column)
		}
	}
}

// Q4
func TestAt(t *testing.T) {
	for _, text := range placeTexts() {
		lines := strings.Count(text, "\n") + 1
		for line := -1; line <= lines+1; line++ {
			for column := -1; column <= len(text)+2; column++ {
				at, e := quote.At(text, line, column)
				wat, we := wantedAt(text, line, column)
				if at != wat || e != we {
					t.Errorf("At(%q, %d, %d): %d, %v, want %d, %v", text, line, column, at, e, wat, we)
				}
			}
		}
	}
}

// Q4: the document's lines and columns, written out.
func TestAtOfExamples(t *testing.T) {
	const text = "a\xce\xb1b\nc"
	for _, c := range []struct {
		t                string
		line, column, at int
		e                api.Errno
	}{
		{text, 1, 1, 0, api.OK},
		{text, 1, 2, 1, api.OK},
		{text, 1, 3, 3, api.OK},
		{text, 1, 4, 4, api.OK},
		{text, 1, 5, 0, api.ErrRange},
		{text, 2, 1, 5, api.OK},
		{text, 2, 2, 6, api.OK},
		{text, 2, 3, 0, api.ErrRange},
		{text, 3, 1, 0, api.ErrRange},
		{text, 0, 1, 0, api.ErrRange},
		{text, 1, 0, 0, api.ErrRange},
		{text, 1, -1, 0, api.ErrRange},
		{text, -1, 1, 0, api.ErrRange},
		{text, math.MaxInt, 1, 0, api.ErrRange},
		{text, math.MinInt, 1, 0, api.ErrRange},
		{text, 1, math.MaxInt, 0, api.ErrRange},
		{text, 1, math.MinInt, 0, api.ErrRange},
		{"", 1, 1, 0, api.OK},
		{"", 1, 2, 0, api.ErrRange},
		{"", 2, 1, 0, api.ErrRange},
		{"\n", 2, 1, 1, api.OK},
		{"\n", 2, 2, 0, api.ErrRange},
		{"\n", 1, 2, 0, api.ErrRange},
		{"a\n\n\nb", 3, 1, 3, api.OK},
	} {
		if at, e := quote.At(c.t, c.line, c.column); at != c.at || e != c.e {
			t.Errorf("At(%q, %d, %d): %d, %v, want %d, %v", c.t, c.line, c.column, at, e, c.at, c.e)
		}
	}
}

// Q4
func TestLinesAndLine(t *testing.T) {
	for _, text := range placeTexts() {
		want := strings.Split(text, "\n")
		if n, e := quote.Lines(text); n != len(want) || e != api.OK {
			t.Errorf("Lines(%q): %d, %v, want %d", text, n, e, len(want))
		}
		for i, line := range want {
			if got, e := quote.Line(text, i+1); got != line || e != api.OK {
				t.Errorf("Line(%q, %d): %q, %v, want %q", text, i+1, got, e, line)
			}
		}
		for _, n := range []int{math.MinInt, -1, 0, len(want) + 1, len(want) + 2, math.MaxInt} {
			if got, e := quote.Line(text, n); got != "" || e != api.ErrRange {
				t.Errorf("Line(%q, %d): %q, %v, want ErrRange", text, n, got, e)
			}
		}
	}
}

// Q4: places that there are not.
func TestPlaceOutOfRange(t *testing.T) {
	for _, text := range []string{"", "a", "\n", "a\xce\xb1b\nc", strings.Repeat("a", api.MaxText)} {
		for _, at := range []int{math.MinInt, -1, len(text) + 1, len(text) + 2, math.MaxInt} {
			if line, column, e := quote.Place(text, at); line != 0 || column != 0 || e != api.ErrRange {
				t.Errorf("Place of %d bytes, %d: %d, %d, %v, want ErrRange", len(text), at, line, column, e)
			}
		}
	}
}

// Q4: texts at their limit are looked at.
func TestPlacesAtTheLimit(t *testing.T) {
	full := strings.Repeat("\n", api.MaxText-1) + "a"
	if line, column, e := quote.Place(full, api.MaxText); line != api.MaxText || column != 2 || e != api.OK {
		t.Error("Place:", line, column, e)
	}
	if at, e := quote.At(full, api.MaxText, 2); at != api.MaxText || e != api.OK {
		t.Error("At:", at, e)
	}
	if n, e := quote.Lines(full); n != api.MaxText || e != api.OK {
		t.Error("Lines:", n, e)
	}
	if line, e := quote.Line(full, api.MaxText); line != "a" || e != api.OK {
		t.Error("Line:", line, e)
	}
	wide := strings.Repeat("a", api.MaxText)
	if line, column, e := quote.Place(wide, api.MaxText); line != 1 || column != api.MaxText+1 || e != api.OK {
		t.Error("Place of one line:", line, column, e)
	}
	if line, e := quote.Line(wide, 1); line != wide || e != api.OK {
		t.Error("Line of one line:", len(line), e)
	}
}

// Q4: texts above it are not, whatever else is wrong.
func TestPlacesAboveTheLimit(t *testing.T) {
	long := strings.Repeat("\n", api.MaxText+1)
	for _, n := range []int{math.MinInt, -1, 0, 1, 2, api.MaxText + 2, math.MaxInt} {
		if line, column, e := quote.Place(long, n); line != 0 || column != 0 || e != api.ErrLong {
			t.Errorf("Place at %d: %d, %d, %v", n, line, column, e)
		}
		if at, e := quote.At(long, n, 1); at != 0 || e != api.ErrLong {
			t.Errorf("At line %d: %d, %v", n, at, e)
		}
		if at, e := quote.At(long, 1, n); at != 0 || e != api.ErrLong {
			t.Errorf("At column %d: %d, %v", n, at, e)
		}
		if line, e := quote.Line(long, n); line != "" || e != api.ErrLong {
			t.Errorf("Line %d: %q, %v", n, line, e)
		}
	}
	if n, e := quote.Lines(long); n != 0 || e != api.ErrLong {
		t.Error("Lines:", n, e)
	}
}

// Q5: At of what Place tells is that place, or the beginning of the character that it stands in.
func TestAtOfPlace(t *testing.T) {
	for _, text := range placeTexts() {
		begins := map[int]bool{len(text): true}
		for at := range text {
			begins[at] = true
		}
		for at := range len(text) + 1 {
			want := at
			for !begins[want] {
				want--
			}
			line, column, _ := quote.Place(text, at)
			if back, e := quote.At(text, line, column); back != want || e != api.OK {
				t.Errorf("%q: At of Place of %d: %d, %v, want %d", text, at, back, e, want)
			}
		}
	}
}

// Q5: Place of what At tells is that line and column.
func TestPlaceOfAt(t *testing.T) {
	for _, text := range placeTexts() {
		for line := range strings.Count(text, "\n") + 2 {
			for column := range len(text) + 2 {
				at, e := quote.At(text, line, column)
				if e != api.OK {
					continue
				}
				if l, c, e := quote.Place(text, at); l != line || c != column || e != api.OK {
					t.Errorf("%q: Place of At of %d, %d: %d, %d, %v", text, line, column, l, c, e)
				}
			}
		}
	}
}

// Q5: the lines, joined by bytes 10, are the text.
func TestLinesJoined(t *testing.T) {
	for _, text := range placeTexts() {
		n, _ := quote.Lines(text)
		var lines []string
		for i := range n {
			line, _ := quote.Line(text, i+1)
			lines = append(lines, line)
		}
		if joined := strings.Join(lines, "\n"); joined != text {
			t.Errorf("the lines of %q, joined: %q", text, joined)
		}
	}
}

// R4: what is told of a text is new memory, where it is the whole of a line or of a literal, too.
func TestAnswersAreNewMemory(t *testing.T) {
	text := strings.Repeat("a", 40)
	whole, _ := quote.Line(text, 1)
	first, _ := quote.Line(text+"\nb", 1)
	literal := "'" + text + "'"
	cut, _, _ := quote.Cut(literal, 0)
	unquoted, _ := quote.Unquote(literal)
	for _, answer := range []string{whole, first, cut, unquoted} {
		for _, given := range []string{text, literal[1:]} {
			if answer != text || unsafe.StringData(answer) == unsafe.StringData(given) {
				t.Errorf("%q is not told as new memory", answer)
			}
		}
	}
}
