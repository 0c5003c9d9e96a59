package charset_test

import (
	"math"
	"regexp"
	"strings"
	"testing"

	"harrow/api"
	"harrow/charset"
)

func itemText(b int) string {
	const hex = "0123456789abcdef"
	switch {
	case b == 9:
		return `\t`
	case b == 10:
		return `\n`
	case b == 13:
		return `\r`
	case strings.IndexByte(`\][^-%`, byte(b)) >= 0:
		return `\` + string(rune(b))
	case b >= 32 && b <= 126:
		return string(rune(b))
	}
	return `\x` + hex[b>>4:b>>4+1] + hex[b&15:b&15+1]
}

// 1.6
func TestShowOfEachByte(t *testing.T) {
	for b := range 256 {
		if got, want := charset.Show(charset.Of(string([]byte{byte(b)}))), "["+itemText(b)+"]"; got != want {
			t.Errorf("Show of %d: %s, want %s", b, got, want)
		}
	}
}

// 1.6: each span of one, two and more bytes.
func TestShowOfEachSpan(t *testing.T) {
	for lo := range 256 {
		for hi := lo + 1; hi < 256; hi++ {
			s, _ := charset.Range(lo, hi)
			want := "[" + itemText(lo) + "-" + itemText(hi) + "]"
			if hi == lo+1 {
				want = "[" + itemText(lo) + itemText(hi) + "]"
			}
			if lo == 0 && hi == 255 {
				want = "[^]"
			}
			if got := charset.Show(s); got != want {
				t.Errorf("Show of %d to %d: %s, want %s", lo, hi, got, want)
			}
		}
	}
}

// 1.6
func TestShow(t *testing.T) {
	digits, _ := charset.Class('d')
	for _, c := range []struct {
		s    api.Set
		want string
	}{
		{api.Set{}, `[]`},
		{charset.Not(api.Set{}), `[^]`},
		{digits, `[0-9]`},
		{charset.Not(digits), `[\x00-/:-\xff]`},
		{charset.Of("ab\n"), `[\nab]`},
		{charset.Of("abc"), `[a-c]`},
		{charset.Of("acdfgh"), `[acdf-h]`},
		{charset.Of(`[\]^`), `[\[-\^]`},
		{charset.Of("^-%"), `[\%\-\^]`},
		{charset.Of("\t\n"), `[\t\n]`},
		{charset.Of("\t\n\v\f\r"), `[\t-\r]`},
		{charset.Of("\x00?@\x7f\x80\xff"), `[\x00?@\x7f\x80\xff]`},
		{charset.Not(charset.Of("\x00")), `[\x01-\xff]`},
		{charset.Not(charset.Of("\xff")), `[\x00-\xfe]`},
	} {
		if got := charset.Show(c.s); got != c.want {
			t.Errorf("Show: %s, want %s", got, c.want)
		}
	}
}

// 1.7
func TestParse(t *testing.T) {
	for _, c := range []struct {
		text, want string
	}{
		{`[]`, ""},
		{`[a]`, "a"},
		{`[abca]`, "abc"},
		{`[a-a]`, "a"},
		{`[a-b]`, "ab"},
		{`[a-ec-g]`, "abcdefg"},
		{`[a-cx-z]`, "abcxyz"},
		{`[a^]`, "a^"},
		{`[\^]`, "^"},
		{`[\^-a]`, "^_`a"},
		{`[[-^]`, `[\]^`},
		{`[[]`, "["},
		{`[[-\]]`, `[\]`},
		{`[\[\]\\\-\%\^]`, `[]\-%^`},
		{`[+-\-]`, "+,-"},
		{`[\--/]`, "-./"},
		{`[\n\r\t]`, "\n\r\t"},
		{`[\t-\r]`, "\t\n\v\f\r"},
		{`[nrtx]`, "nrtx"},
		{`[\x00\x3f\x40\x7f\x80\xff]`, "\x00?@\x7f\x80\xff"},
		{`[\x410]`, "A0"},
		{`[A-\x43]`, "ABC"},
		{`[\x41-C]`, "ABC"},
		{`[ -"]`, " !\""},
		{`[%d_]`, "0123456789_"},
		{`[_%d]`, "0123456789_"},
		{`[%da-c]`, "0123456789abc"},
		{`[%d%d%l]`, digits + smallLetters},
		{`[^%D]`, "0123456789"},
		{`[^\x00-\xff]`, ""},
	} {
		got, f := charset.Parse(c.text)
		if f != (api.Fault{}) {
			t.Errorf("Parse(%q): %v", c.text, f)
		}
		sameMembers(t, c.text, got, func(b int) bool { return strings.IndexByte(c.want, byte(b)) >= 0 })
	}
}

// 1.7: with ^ right behind the bracket the others are meant.
func TestParseOfTheOthers(t *testing.T) {
	for _, c := range []struct {
		text, without string
	}{
		{`[^]`, ""},
		{`[^a]`, "a"},
		{`[^^]`, "^"},
		{`[^^-a]`, "^_`a"},
		{`[^a^]`, "a^"},
		{`[^a-cx]`, "abcx"},
		{`[^%d_]`, "0123456789_"},
		{`[%D]`, "0123456789"},
		{`[%d%D]`, ""},
		{`[\x00-\xff]`, ""},
		{`[\x01-\xff]`, "\x00"},
	} {
		got, f := charset.Parse(c.text)
		if f != (api.Fault{}) {
			t.Errorf("Parse(%q): %v", c.text, f)
		}
		sameMembers(t, c.text, got, func(b int) bool { return strings.IndexByte(c.without, byte(b)) < 0 })
	}
}

// 1.7
func TestParseOfWhatIsNone(t *testing.T) {
	for _, c := range []struct {
		text string
		at   int
		code api.Errno
	}{
		{"", 0, api.ErrText},
		{"a]", 0, api.ErrText},
		{"]", 0, api.ErrText},
		{" [a]", 0, api.ErrText},
		{"[", 1, api.ErrText},
		{"[^", 2, api.ErrText},
		{"[a", 2, api.ErrText},
		{"[^a", 3, api.ErrText},
		{"[a-", 3, api.ErrText},
		{"[a-z", 4, api.ErrText},
		{"[%d", 3, api.ErrText},
		{`[\n`, 3, api.ErrText},
		{`[\x41`, 5, api.ErrText},
		{"[-", 1, api.ErrText},
		{"[-a]", 1, api.ErrText},
		{"[^-a]", 2, api.ErrText},
		{"[a-]", 3, api.ErrText},
		{"[a--]", 3, api.ErrText},
		{`[\--]`, 4, api.ErrText},
		{"[a-b-c]", 4, api.ErrText},
		{"[%d-z]", 3, api.ErrText},
		{"[a-%d]", 3, api.ErrText},
		{"[a-%q]", 3, api.ErrText},
		{`[a-\q]`, 3, api.ErrText},
		{"[a-\x1f]", 3, api.ErrText},
		{"[a\x7f]", 2, api.ErrText},
		{"[\n]", 1, api.ErrText},
		{"[é]", 1, api.ErrText},
		{`[\`, 1, api.ErrText},
		{`[a\`, 2, api.ErrText},
		{`[a-\`, 3, api.ErrText},
		{`[\q]`, 1, api.ErrText},
		{`[\N]`, 1, api.ErrText},
		{`[\'z-a]`, 1, api.ErrText},
		{`[\x`, 1, api.ErrText},
		{`[\x4`, 1, api.ErrText},
		{`[\x]`, 1, api.ErrText},
		{`[\x4]`, 1, api.ErrText},
		{`[\x4]]`, 1, api.ErrText},
		{`[\xFF]`, 1, api.ErrText},
		{`[\x0A]`, 1, api.ErrText},
		{`[\xA0]`, 1, api.ErrText},
		{`[\xg0]`, 1, api.ErrText},
		{`[\x0g]`, 1, api.ErrText},
		{`[\X41]`, 1, api.ErrText},
		{"[%", 1, api.ErrClass},
		{"[%]", 1, api.ErrClass},
		{"[%q]", 1, api.ErrClass},
		{"[%Q]", 1, api.ErrClass},
		{"[%%]", 1, api.ErrClass},
		{"[%^]", 1, api.ErrClass},
		{"[^%", 2, api.ErrClass},
		{"[ab%1]", 3, api.ErrClass},
		{"[%\xe4]", 1, api.ErrClass},
		{"[z-a]", 1, api.ErrRange},
		{"[z-a", 1, api.ErrRange},
		{"[b-a%q]", 1, api.ErrRange},
		{"[^b-a]", 2, api.ErrRange},
		{"[a-cz-y]", 4, api.ErrRange},
		{`[\x41-\x40]`, 1, api.ErrRange},
		{`[a\xff-\xfe]`, 2, api.ErrRange},
		{`[\]-\[]`, 1, api.ErrRange},
		{"[%qz-a]", 1, api.ErrClass},
		{`[\qz-a]`, 1, api.ErrText},
		{"[z-a]x", 1, api.ErrRange},
		{"[]x", 2, api.ErrText},
		{"[]]", 2, api.ErrText},
		{"[^]]", 3, api.ErrText},
		{"[a] ", 3, api.ErrText},
		{"[a][b]", 3, api.ErrText},
		{"[a]\x00", 3, api.ErrText},
	} {
		want := api.Fault{At: c.at, Code: c.code}
		if s, f := charset.Parse(c.text); f != want || s != (api.Set{}) {
			t.Errorf("Parse(%q): %v, %v, want %v", c.text, s, f, want)
		}
	}
}

// 1.7: each byte as an item by itself, and behind a backslash.
func TestItemsOfOneByte(t *testing.T) {
	escaped := map[byte]byte{'n': 10, 'r': 13, 't': 9, '\\': '\\', ']': ']', '[': '[', '^': '^', '-': '-', '%': '%'}
	for b := range 256 {
		c := byte(b)
		s, f := charset.Parse("[a" + string([]byte{c}) + "]")
		switch {
		case c == ']':
			checkFault(t, "a bracket more", s, f, api.Fault{At: 3, Code: api.ErrText})
		case c == '%':
			checkFault(t, "a percent sign", s, f, api.Fault{At: 2, Code: api.ErrClass})
		case c == '-':
			checkFault(t, "a hyphen", s, f, api.Fault{At: 3, Code: api.ErrText})
		case c == '\\':
			checkFault(t, "an open text", s, f, api.Fault{At: 4, Code: api.ErrText})
		case c < 32 || c > 126:
			checkFault(t, "a byte that cannot stand there", s, f, api.Fault{At: 2, Code: api.ErrText})
		case f != (api.Fault{}) || s != charset.Of("a"+string([]byte{c})):
			t.Errorf("[a and the byte %d: %v, %v", b, s, f)
		}
		s, f = charset.Parse(`[\` + string([]byte{c}) + "]")
		if said, ok := escaped[c]; !ok {
			checkFault(t, "an escape that is none", s, f, api.Fault{At: 1, Code: api.ErrText})
		} else if f != (api.Fault{}) || s != charset.Of(string([]byte{said})) {
			t.Errorf("a backslash and the byte %d: %v, %v", b, s, f)
		}
	}
}

func checkFault(t *testing.T, what string, s api.Set, f, want api.Fault) {
	t.Helper()
	if f != want || s != (api.Set{}) {
		t.Errorf("%s: %v, %v, want %v", what, s, f, want)
	}
}

// 1.7: any two bytes behind \x.
func TestItemsByNumber(t *testing.T) {
	const hex = "0123456789abcdef"
	for a := range 256 {
		for b := range 256 {
			s, f := charset.Parse(`[\x` + string([]byte{byte(a), byte(b)}) + "]")
			high, low := strings.IndexByte(hex, byte(a)), strings.IndexByte(hex, byte(b))
			if high < 0 || low < 0 {
				checkFault(t, "digits that are none", s, f, api.Fault{At: 1, Code: api.ErrText})
			} else if f != (api.Fault{}) || s != charset.Of(string([]byte{byte(high<<4 | low)})) {
				t.Errorf("%c%c: %v, %v", a, b, s, f)
			}
		}
	}
}

// 1.7: each byte behind a percent sign.
func TestClassesInTexts(t *testing.T) {
	for b := range 256 {
		s, f := charset.Parse("[%" + string([]byte{byte(b)}) + "]")
		want, e := charset.Class(byte(b))
		if e != api.OK {
			checkFault(t, "a letter of no class", s, f, api.Fault{At: 1, Code: api.ErrClass})
		} else if f != (api.Fault{}) || s != want {
			t.Errorf("%%%c: %v, %v", b, s, f)
		}
	}
}

// 1.7: any two items, as one member.
func TestMembersOfTwoItems(t *testing.T) {
	for lo := range 256 {
		for hi := range 256 {
			s, f := charset.Parse("[" + itemText(lo) + "-" + itemText(hi) + "]")
			if lo > hi {
				checkFault(t, "the second one is lower", s, f, api.Fault{At: 1, Code: api.ErrRange})
				continue
			}
			if f != (api.Fault{}) {
				t.Errorf("%d to %d: %v", lo, hi, f)
			}
			sameMembers(t, "two items", s, func(b int) bool { return lo <= b && b <= hi })
		}
	}
}

// 1.7
func TestRead(t *testing.T) {
	for _, c := range []struct {
		text string
		at   int
		want string
		end  int
	}{
		{"[ab]", 0, "ab", 4},
		{"x[ab]y", 1, "ab", 5},
		{"x[ab]]", 1, "ab", 5},
		{"[][ab]", 0, "", 2},
		{"[][ab]", 2, "ab", 6},
		{"[a[b]", 2, "b", 5},
		{"[[b]", 0, "[b", 4},
		{"[a]z-a]", 0, "a", 3},
		{"\xff\x00[\\x00]\xff", 2, "\x00", 8},
		{strings.Repeat("x", api.MaxText) + "[a]", api.MaxText, "a", api.MaxText + 3},
	} {
		s, end, f := charset.Read(c.text, c.at)
		if charset.Bytes(s) != c.want || end != c.end || f != (api.Fault{}) {
			t.Errorf("Read(%q, %d): %q, %d, %v", c.text[:min(len(c.text), 20)], c.at, charset.Bytes(s), end, f)
		}
	}
}

// 1.7
func TestReadOfWhatIsNone(t *testing.T) {
	for _, c := range []struct {
		text string
		at   int
		want api.Fault
	}{
		{"", 0, api.Fault{At: 0, Code: api.ErrText}},
		{"", 1, api.Fault{At: 0, Code: api.ErrRange}},
		{"", -1, api.Fault{At: 0, Code: api.ErrRange}},
		{"[a]", 1, api.Fault{At: 1, Code: api.ErrText}},
		{"[a]", 3, api.Fault{At: 3, Code: api.ErrText}},
		{"[a]", 4, api.Fault{At: 0, Code: api.ErrRange}},
		{"[a]", -1, api.Fault{At: 0, Code: api.ErrRange}},
		{"[a]", math.MaxInt, api.Fault{At: 0, Code: api.ErrRange}},
		{"[a]", math.MinInt, api.Fault{At: 0, Code: api.ErrRange}},
		{"xy[", 2, api.Fault{At: 3, Code: api.ErrText}},
		{"xy[^", 2, api.Fault{At: 4, Code: api.ErrText}},
		{"xy[a-]", 2, api.Fault{At: 5, Code: api.ErrText}},
		{`xy[\q]`, 2, api.Fault{At: 3, Code: api.ErrText}},
		{"xy[%q]", 2, api.Fault{At: 3, Code: api.ErrClass}},
		{"xy[az-a]", 2, api.Fault{At: 4, Code: api.ErrRange}},
	} {
		if s, end, f := charset.Read(c.text, c.at); f != c.want || end != 0 || s != (api.Set{}) {
			t.Errorf("Read(%q, %d): %v, %d, %v, want %v", c.text, c.at, s, end, f, c.want)
		}
	}
}

// 1.7
func TestParseAtItsLimit(t *testing.T) {
	text := "[" + strings.Repeat("a", api.MaxText-3) + "b]"
	if s, f := charset.Parse(text); charset.Bytes(s) != "ab" || f != (api.Fault{}) {
		t.Error("of MaxText bytes:", s, f)
	}
	long := api.Fault{At: 0, Code: api.ErrLong}
	for _, text := range []string{"[a" + text[1:], text + "x", strings.Repeat("x", api.MaxText+1), "[]" + strings.Repeat("x", api.MaxText)} {
		s, f := charset.Parse(text)
		checkFault(t, "of more", s, f, long)
	}
	s, f := charset.Parse(strings.Repeat("[", api.MaxText))
	checkFault(t, "open at the limit", s, f, api.Fault{At: api.MaxText, Code: api.ErrText})
}

// What a class text looks like, but for the order of two items: a description that goes no way of its own.
func looksLikeClassText() func(text string) bool {
	item := `(?:[ -$&-,.-\[^-~]|\\[nrt\\\][^%-]|\\x[0-9a-f]{2})`
	members := regexp.MustCompile(`^(?:` + item + `-` + item + `|` + item + `|%[acdglpsuwxACDGLPSUWX])*\]$`)
	return func(text string) bool {
		rest, ok := strings.CutPrefix(text, "[")
		return ok && members.MatchString(strings.TrimPrefix(rest, "^"))
	}
}

// 1.7: all short texts of some bytes are read just if they look so; if not, all ahead of the fault does.
func TestAllShortTexts(t *testing.T) {
	looks := looksLikeClassText()
	begins := func(text string) bool {
		return text == "" || looks(text+"]") || looks(text+"a]") || looks(text)
	}
	var try func(text, signs string, more int)
	try = func(text, signs string, more int) {
		_, f := charset.Parse(text)
		if f.Code == api.OK && !looks(text) || f.Code != api.OK && f.Code != api.ErrRange && looks(text) {
			t.Errorf("Parse(%q): %v", text, f)
		}
		if f.Code != api.OK && !begins(text[:f.At]) {
			t.Errorf("Parse(%q): %v, but it is wrong ahead of that", text, f)
		}
		if f.Code == api.ErrText && f.At < len(text) && text[f.At] != '\\' && begins(text[:f.At+1]) {
			t.Errorf("Parse(%q): %v, but that may stand there", text, f)
		}
		for i := range signs {
			if more > 0 {
				try(text+signs[i:i+1], signs, more-1)
			}
		}
	}
	try("", "[]^-%\\ab", 5)
	try("[a", "]^-%\\axd", 4)
	try(`[\x`, "]-4afA\\", 4)
}
