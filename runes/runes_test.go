package runes_test

import (
	"math"
	"slices"
	"strings"
	"testing"
	"unsafe"

	"harrow/api"
	"harrow/runes"
)

const replacement = "\xef\xbf\xbd"

// The chapter's words as arithmetic, so that what the package says is held against something that it did not make.
func encodingOf(r int) (string, bool) {
	tail := func(shift int) byte { return byte(0x80 + r>>shift%64) }
	switch {
	case r < 0 || r > 0x10ffff || r >= 0xd800 && r <= 0xdfff:
		return "", false
	case r <= 0x7f:
		return string([]byte{byte(r)}), true
	case r <= 0x7ff:
		return string([]byte{byte(0xc0 + r>>6), tail(0)}), true
	case r <= 0xffff:
		return string([]byte{byte(0xe0 + r>>12), tail(6), tail(0)}), true
	}
	return string([]byte{byte(0xf0 + r>>18), tail(12), tail(6), tail(0)}), true
}

// A text is an encoding, if the number that its bits make has just that one.
func decodingOf(s string) (int, bool) {
	if s == "" || len(s) > 4 {
		return 0, false
	}
	r := int(s[0]) - []int{0, 0xc0, 0xe0, 0xf0}[len(s)-1]
	for i := 1; i < len(s); i++ {
		r = r<<6 | int(s[i])&0x3f
	}
	e, ok := encodingOf(r)
	return r, ok && e == s
}

// The encoding that begins the text: no encoding begins another one, so there is at most one.
func headOf(s string) (r, size int, ok bool) {
	for n := 1; n <= min(4, len(s)); n++ {
		if r, ok := decodingOf(s[:n]); ok {
			return r, n, true
		}
	}
	return 0, 0, false
}

// What the model tells of a whole text: its code points, the first place at which none begins (-1: none), the text made clean.
func modelOf(s string) (points []int, fault int, clean string) {
	fault = -1
	for at := 0; at < len(s); {
		r, n, ok := headOf(s[at:])
		if !ok {
			if fault < 0 {
				fault = at
			}
			clean += replacement
			at++
			continue
		}
		points = append(points, r)
		clean += s[at : at+n]
		at += n
	}
	return points, fault, clean
}

// All texts of at most n members of the alphabet.
func textsOf(alphabet []string, n int) []string {
	all := []string{""}
	last := all
	for range n {
		var longer []string
		for _, t := range last {
			for _, a := range alphabet {
				longer = append(longer, t+a)
			}
		}
		all = append(all, longer...)
		last = longer
	}
	return all
}

// The bytes at which something changes: kinds of first bytes, and what may stand behind them.
func edgeBytes() []string {
	return strings.Split("\x00 \x7f \x80 \x8f \x90 \x9f \xa0 \xbf \xc0 \xc1 \xc2 \xdf \xe0 \xe1 \xec \xed \xee \xef \xf0 \xf3 \xf4 \xf5 \xff \xbd", " ")
}

// The code points that the chapter names, with the numbers beside them; some are none.
func edgePoints() []int {
	var l []int
	for _, r := range []int{0, 0x7f, 0x80, 0x7ff, 0x800, 0xd7ff, 0xd800, 0xdfff, 0xe000, 0xfffd, 0xffff, 0x10000, 0x10ffff, 0x110000} {
		l = append(l, r-1, r, r+1)
	}
	slices.Sort(l)
	return slices.Compact(l)
}

// Numbers that are no code points, among them such as become ones if their high bits are lost.
func wrongPoints() []int {
	return []int{-1, -0x3b1, 0xd800, 0xdbff, 0xdc00, 0xdfff, 0x110000, 0x110061, 1<<31 - 1, 1 << 31, 1<<32 + 0x61, -1<<32 + 0x61, math.MinInt, math.MinInt + 0x61, math.MaxInt}
}

// Texts that are no encoding: cut off, with a wrong byte behind the first one, longer than they need be, of a surrogate, above 10ffff, or begun by what begins none.
func brokenTexts() []string {
	return []string{
		"\xc2", "\xdf", "\xe2", "\xe2\x82", "\xf0", "\xf0\x9f", "\xf0\x9f\x98", "\xef\xbf",
		"\xc2a", "\xc2\xc2", "\xc2\x7f", "\xc2\xc0", "\xe2\x82a", "\xe2a\x82", "\xe2\x82\xc0", "\xf0\x9f\x98a", "\xf0\x9fa\x80", "\xf0a\x98\x80", "\xef\xbf\xc0",
		"\xc0\x80", "\xc0\xaf", "\xc1\xbf", "\xe0\x80\x80", "\xe0\x9f\xbf", "\xf0\x80\x80\x80", "\xf0\x8f\xbf\xbf", "\xf8\x88\x80\x80\x80", "\xfc\x84\x80\x80\x80\x80",
		"\xed\xa0\x80", "\xed\xad\xbf", "\xed\xae\x80", "\xed\xbf\xbf",
		"\xf4\x90\x80\x80", "\xf4\xbf\xbf\xbf", "\xf5\x80\x80\x80", "\xf7\xbf\xbf\xbf",
		"\x80", "\xbf", "\xf8", "\xfe", "\xff",
	}
}

// 3.1, 3.4
func TestEncodeOfAll(t *testing.T) {
	for r := -0x100; r <= 0x110100; r++ {
		want, is := encodingOf(r)
		got, e := runes.Encode(r)
		if !is {
			if got != "" || e != api.ErrRune {
				t.Fatalf("Encode(%x): %x, %v", r, got, e)
			}
			continue
		}
		if got != want || e != api.OK {
			t.Fatalf("Encode(%x): %x, %v, want %x", r, got, e, want)
		}
		if back, n, ok := runes.Decode(got, 0); back != r || n != len(want) || !ok {
			t.Fatalf("Decode of Encode(%x): %x, %d, %v", r, back, n, ok)
		}
	}
}

// 3.1: the encodings as they are written elsewhere, so that the model, too, is held against something.
func TestEncode(t *testing.T) {
	for r, want := range map[int]string{
		0: "\x00", 0x61: "a", 0x7f: "\x7f",
		0x80: "\xc2\x80", 0x3b1: "\xce\xb1", 0x7ff: "\xdf\xbf",
		0x800: "\xe0\xa0\x80", 0x20ac: "\xe2\x82\xac", 0xd7ff: "\xed\x9f\xbf", 0xe000: "\xee\x80\x80", 0xfffd: replacement, 0xffff: "\xef\xbf\xbf",
		0x10000: "\xf0\x90\x80\x80", 0x1f600: "\xf0\x9f\x98\x80", 0x10ffff: "\xf4\x8f\xbf\xbf",
	} {
		if got, e := runes.Encode(r); got != want || e != api.OK {
			t.Errorf("Encode(%x): %x, %v, want %x", r, got, e, want)
		}
		if model, ok := encodingOf(r); model != want || !ok {
			t.Errorf("the model of %x: %x, want %x", r, model, want)
		}
	}
	for _, r := range wrongPoints() {
		if got, e := runes.Encode(r); got != "" || e != api.ErrRune {
			t.Errorf("Encode(%x): %x, %v", r, got, e)
		}
	}
}

func checkDecode(t *testing.T, s string, at int) {
	t.Helper()
	var r, n int
	var ok bool
	if at >= 0 && at <= len(s) {
		r, n, ok = headOf(s[at:])
	}
	if gotR, gotN, gotOK := runes.Decode(s, at); gotR != r || gotN != n || gotOK != ok {
		t.Fatalf("Decode(%x, %d): %x, %d, %v, want %x, %d, %v", s, at, gotR, gotN, gotOK, r, n, ok)
	}
}

// 3.1
func TestDecodeOfShortTexts(t *testing.T) {
	for _, s := range textsOf(edgeBytes(), 4) {
		for at := -1; at <= len(s)+1; at++ {
			checkDecode(t, s, at)
		}
	}
	for b := range 0x10000 {
		checkDecode(t, string([]byte{byte(b >> 8), byte(b)}), 0)
	}
}

// 3.1
func TestDecode(t *testing.T) {
	const s = "\xce\xb1a"
	for at, want := range map[int][2]int{0: {0x3b1, 2}, 2: {0x61, 1}} {
		if r, n, ok := runes.Decode(s, at); r != want[0] || n != want[1] || !ok {
			t.Errorf("at %d: %x, %d, %v", at, r, n, ok)
		}
	}
	for _, at := range []int{1, 3, 4, -1, math.MinInt, math.MaxInt, 1 << 32} {
		if r, n, ok := runes.Decode(s, at); r != 0 || n != 0 || ok {
			t.Errorf("at %d: %x, %d, %v", at, r, n, ok)
		}
	}
	for _, at := range []int{-1, 0, 1} {
		if r, n, ok := runes.Decode("", at); r != 0 || n != 0 || ok {
			t.Errorf("of nothing at %d: %x, %d, %v", at, r, n, ok)
		}
	}
	// The code point that often stands for what is none is one itself.
	if r, n, ok := runes.Decode(replacement, 0); r != 0xfffd || n != 3 || !ok {
		t.Errorf("of fffd: %x, %d, %v", r, n, ok)
	}
	long := strings.Repeat("\xce\xb1", api.MaxText)
	if r, n, ok := runes.Decode(long, len(long)-2); r != 0x3b1 || n != 2 || !ok {
		t.Errorf("at a long text's end: %x, %d, %v", r, n, ok)
	}
}

// 3.1, 3.2
func TestWhatIsNoEncoding(t *testing.T) {
	for _, s := range brokenTexts() {
		if r, n, ok := runes.Decode(s, 0); r != 0 || n != 0 || ok {
			t.Errorf("Decode(%x): %x, %d, %v", s, r, n, ok)
		}
		if r, n, ok := runes.Decode("ab"+s, 2); r != 0 || n != 0 || ok {
			t.Errorf("Decode(ab%x, 2): %x, %d, %v", s, r, n, ok)
		}
		if runes.Valid(s) || runes.Valid("a"+s) || runes.Valid(s+"a") {
			t.Errorf("%x is told to be valid", s)
		}
		if l, f := runes.Points(s); len(l) != 0 || f != (api.Fault{At: 0, Code: api.ErrText}) {
			t.Errorf("Points(%x): %x, %v", s, l, f)
		}
		if l, f := runes.Points("\xce\xb1" + s + "\xff"); len(l) != 0 || f != (api.Fault{At: 2, Code: api.ErrText}) {
			t.Errorf("Points(ceb1%xff): %x, %v", s, l, f)
		}
	}
}

func checkText(t *testing.T, s string) {
	t.Helper()
	points, fault, clean := modelOf(s)
	if runes.Valid(s) != (fault < 0) {
		t.Fatalf("Valid(%x) is not %v", s, fault < 0)
	}
	l, f := runes.Points(s)
	if fault >= 0 {
		if len(l) != 0 || f != (api.Fault{At: fault, Code: api.ErrText}) {
			t.Fatalf("Points(%x): %x, %v, want a fault at %d", s, l, f, fault)
		}
	} else if !slices.Equal(l, points) || f != (api.Fault{}) {
		t.Fatalf("Points(%x): %x, %v, want %x", s, l, f, points)
	}
	if got := runes.Clean(s); got != clean {
		t.Fatalf("Clean(%x): %x, want %x", s, got, clean)
	}
}

// 3.2
func TestShortTexts(t *testing.T) {
	for _, s := range textsOf(edgeBytes(), 3) {
		checkText(t, s)
	}
	// Fewer bytes, so that an encoding of four has something ahead of it and behind it.
	few := strings.Split("a \x80 \x90 \xbf \xc2 \xef \xf0 \xbd", " ")
	for _, s := range textsOf(few, 6) {
		checkText(t, s)
	}
	for _, s := range textsOf(append(brokenTexts(), "a", "\xce\xb1", "\xe2\x82\xac", replacement, "\xf0\x9f\x98\x80"), 2) {
		checkText(t, s)
		checkText(t, "b"+s+"\xce\xb1")
	}
}

// 3.2
func TestTexts(t *testing.T) {
	if l, f := runes.Points(""); len(l) != 0 || f != (api.Fault{}) || !runes.Valid("") || runes.Clean("") != "" {
		t.Error("of nothing:", l, f, runes.Valid(""), runes.Clean(""))
	}
	if l, f := runes.Points("a\xce\xb1\xe2\x82\xac\xf0\x9f\x98\x80"); !slices.Equal(l, []int{0x61, 0x3b1, 0x20ac, 0x1f600}) || f != (api.Fault{}) {
		t.Error("Points:", l, f)
	}
	for s, want := range map[string]string{
		"a\xffb":             "a" + replacement + "b",
		"\xe2\x82":           replacement + replacement,
		"\xe2\x82\xce\xb1":   replacement + replacement + "\xce\xb1",
		"\xed\xa0\x80":       replacement + replacement + replacement,
		"\xf4\x90\x80\x80x":  replacement + replacement + replacement + replacement + "x",
		"\xc0\x80":           replacement + replacement,
		replacement:          replacement,
		replacement + "\xef": replacement + replacement,
		"\xce\xb1 \x00\x7f~": "\xce\xb1 \x00\x7f~",
	} {
		if got := runes.Clean(s); got != want {
			t.Errorf("Clean(%x): %x, want %x", s, got, want)
		}
	}
}

// 3.2: Points has a limit, Valid and Clean have none; a text that is too long is told ahead of what is wrong in it.
func TestLongTexts(t *testing.T) {
	full := strings.Repeat("a", api.MaxText-2) + "\xce\xb1"
	if l, f := runes.Points(full); len(l) != api.MaxText-1 || l[len(l)-1] != 0x3b1 || f != (api.Fault{}) {
		t.Error("Points at the limit:", len(l), f)
	}
	if l, f := runes.Points(full[:api.MaxText-1] + "\xff"); len(l) != 0 || f != (api.Fault{At: api.MaxText - 2, Code: api.ErrText}) {
		t.Error("a fault at the limit:", len(l), f)
	}
	for _, s := range []string{full + "a", "\xff" + full, "a" + full, strings.Repeat("\xff", api.MaxText+1), strings.Repeat("\xce\xb1", api.MaxText)} {
		if l, f := runes.Points(s); len(l) != 0 || f != (api.Fault{At: 0, Code: api.ErrLong}) {
			t.Error("Points above the limit:", len(l), f)
		}
	}
	long := strings.Repeat("\xce\xb1", 3*api.MaxText)
	if !runes.Valid(long) || runes.Valid(long+"\xce") || runes.Valid(long[1:]) {
		t.Error("Valid of a long text")
	}
	if runes.Clean(long) != long || runes.Clean(long+"\xce") != long+replacement || runes.Clean(long[1:]) != replacement+long[2:] {
		t.Error("Clean of a long text")
	}
}

// 3.2
func TestFromPoints(t *testing.T) {
	for _, c := range []struct {
		l    []int
		want string
	}{
		{nil, ""},
		{[]int{}, ""},
		{[]int{0}, "\x00"},
		{[]int{0x61, 0x3b1, 0x20ac, 0x1f600}, "a\xce\xb1\xe2\x82\xac\xf0\x9f\x98\x80"},
		{[]int{0x10ffff, 0xfffd, 0xe000, 0xd7ff}, "\xf4\x8f\xbf\xbf\xef\xbf\xbd\xee\x80\x80\xed\x9f\xbf"},
	} {
		if got, e := runes.FromPoints(c.l); got != c.want || e != api.OK {
			t.Errorf("FromPoints(%x): %x, %v, want %x", c.l, got, e, c.want)
		}
	}
	for _, r := range wrongPoints() {
		for _, l := range [][]int{{r}, {0x61, r}, {r, 0x61}, {0x3b1, r, 0x3b1}} {
			if got, e := runes.FromPoints(l); got != "" || e != api.ErrRune {
				t.Errorf("FromPoints(%x): %x, %v", l, got, e)
			}
		}
	}
}

// 3.2
func TestFromPointsOfEdges(t *testing.T) {
	var right []int
	want := ""
	for _, r := range edgePoints() {
		s, is := encodingOf(r)
		got, e := runes.FromPoints([]int{r, r})
		if !is {
			if got != "" || e != api.ErrRune {
				t.Errorf("FromPoints of %x: %x, %v", r, got, e)
			}
			continue
		}
		if got != s+s || e != api.OK {
			t.Errorf("FromPoints of %x: %x, %v", r, got, e)
		}
		right = append(right, r)
		want += s
	}
	if got, e := runes.FromPoints(right); got != want || e != api.OK {
		t.Errorf("FromPoints(%x): %x, %v", right, got, e)
	}
}

// 3.2: a list that is too long is told ahead of what is wrong in it.
func TestFromPointsOfLongLists(t *testing.T) {
	l := slices.Repeat([]int{0x10ffff}, api.MaxItems)
	if s, e := runes.FromPoints(l); s != strings.Repeat("\xf4\x8f\xbf\xbf", api.MaxItems) || e != api.OK {
		t.Error("at the limit:", len(s), e)
	}
	l[api.MaxItems-1] = 0xd800
	if s, e := runes.FromPoints(l); s != "" || e != api.ErrRune {
		t.Error("wrong at the limit:", len(s), e)
	}
	for _, r := range []int{0x61, 0xd800, -1} {
		if s, e := runes.FromPoints(slices.Repeat([]int{r}, api.MaxItems+1)); s != "" || e != api.ErrLong {
			t.Error("above the limit:", len(s), e)
		}
	}
}

// 3.4
func TestThereAndBack(t *testing.T) {
	for _, s := range textsOf([]string{"\x00", "a", "\xc2\x80", "\xdf\xbf", "\xe0\xa0\x80", replacement, "\xf0\x90\x80\x80", "\xf4\x8f\xbf\xbf", "\x80", "\xef", "\xbf"}, 4) {
		clean := runes.Clean(s)
		if !runes.Valid(clean) || runes.Clean(clean) != clean {
			t.Fatalf("what Clean makes of %x is %x", s, clean)
		}
		if runes.Valid(s) != (clean == s) {
			t.Fatalf("Clean(%x): %x, but Valid is %v", s, clean, runes.Valid(s))
		}
		l, f := runes.Points(clean)
		back, e := runes.FromPoints(l)
		if f != (api.Fault{}) || e != api.OK || back != clean {
			t.Fatalf("FromPoints of Points of %x: %x, %v, %v", clean, back, f, e)
		}
	}
	var all []int
	for r := range 0x110000 {
		if _, ok := encodingOf(r); ok {
			all = append(all, r)
		}
	}
	for part := range slices.Chunk(all, api.MaxItems) {
		s, e := runes.FromPoints(part)
		l, f := runes.Points(s)
		if e != api.OK || f != (api.Fault{}) || !slices.Equal(l, part) || !runes.Valid(s) || runes.Clean(s) != s {
			t.Fatalf("Points of FromPoints from %x on: %v, %v", part[0], e, f)
		}
	}
}

// R4: what is handed in stays, spare room too; what is answered is new.
func TestNewMemory(t *testing.T) {
	given := []int{0x61, 0x3b1, 7, 8}
	if s, e := runes.FromPoints(given[:2]); s != "a\xce\xb1" || e != api.OK || !slices.Equal(given, []int{0x61, 0x3b1, 7, 8}) {
		t.Error("FromPoints:", s, e, given)
	}
	for _, s := range []string{"a", "plain text", "\xce\xb1\xce\xb1", strings.Repeat("x", 500)} {
		if clean := runes.Clean(s); clean != s || unsafe.StringData(clean) == unsafe.StringData(s) {
			t.Errorf("Clean(%q) is not told as new memory", s)
		}
	}
	a, _ := runes.Points("abcde")
	b, _ := runes.Points("abcde")
	for i := range a[:cap(a)] {
		a[:cap(a)][i] = -1
	}
	if !slices.Equal(b, []int{'a', 'b', 'c', 'd', 'e'}) {
		t.Error("two answers of Points share memory:", b)
	}
}
