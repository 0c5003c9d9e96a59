package quote_test

import (
	"math"
	"regexp"
	"strconv"
	"strings"
	"testing"

	"harrow/api"
	"harrow/quote"
)

// All texts of at most n members of the alphabet.
func textsOf(alphabet []string, n int) []string {
	all := []string{""}
	last := all
	for range n {
		var longer []string
		for _, t := range last {
			for _, a := range alphabet {
				longer = append(longer, t+a)
			}
		}
		all = append(all, longer...)
		last = longer
	}
	return all
}

func wantedByte(b int) string {
	const hex = "0123456789abcdef"
	switch {
	case b == 10:
		return `\n`
	case b == 13:
		return `\r`
	case b == 9:
		return `\t`
	case b == 39:
		return `\'`
	case b == 92:
		return `\\`
	case b >= 32 && b <= 126:
		return string(rune(b))
	}
	return `\x` + hex[b>>4:b>>4+1] + hex[b&15:b&15+1]
}

// Q1
func TestQuoteOfEachByte(t *testing.T) {
	all, want := "", ""
	for b := range 256 {
		one := string([]byte{byte(b)})
		if got, e := quote.Quote(one); got != "'"+wantedByte(b)+"'" || e != api.OK {
			t.Errorf("Quote of %d: %s, %v", b, got, e)
		}
		all += one
		want += wantedByte(b)
	}
	if got, e := quote.Quote(all); got != "'"+want+"'" || e != api.OK {
		t.Errorf("Quote of all bytes: %s, %v", got, e)
	}
}

// Q1
func TestQuote(t *testing.T) {
	for s, want := range map[string]string{
		"":                   `''`,
		"abc":                `'abc'`,
		"a'b\x00\xff\n":      `'a\'b\x00\xff\n'`,
		`it's "so"`:          `'it\'s "so"'`,
		`\n`:                 `'\\n'`,
		"\r\n\t":             `'\r\n\t'`,
		"\x1f ~\x7f\x80\xff": `'\x1f ~\x7f\x80\xff'`,
		"\xce\xb1":           `'\xce\xb1'`,
	} {
		if got, e := quote.Quote(s); got != want || e != api.OK {
			t.Errorf("Quote(%q): %s, %v, want %s", s, got, e, want)
		}
	}
}

// Q1: the text's limit, and the literal's.
func TestQuoteLimits(t *testing.T) {
	for _, c := range []struct {
		s  string
		ok bool
	}{
		{strings.Repeat("a", api.MaxText-2), true},
		{strings.Repeat("a", api.MaxText-1), false},
		{strings.Repeat("a", api.MaxText), false},
		{strings.Repeat("a", api.MaxText+1), false},
		{strings.Repeat("\xff", (api.MaxText-4)/4) + "ab", true},
		{strings.Repeat("\xff", (api.MaxText-4)/4) + "\n", true},
		{strings.Repeat("\xff", (api.MaxText-4)/4) + "abc", false},
		{strings.Repeat("\xff", (api.MaxText-4)/4) + "a\n", false},
		{strings.Repeat("'", (api.MaxText-2)/2), true},
		{strings.Repeat("'", (api.MaxText-2)/2) + "a", false},
		{strings.Repeat("\x00", api.MaxText), false},
	} {
		got, e := quote.Quote(c.s)
		if c.ok && (len(got) != api.MaxText || e != api.OK) {
			t.Errorf("Quote of %d bytes: %d bytes, %v", len(c.s), len(got), e)
		}
		if !c.ok && (got != "" || e != api.ErrLong) {
			t.Errorf("Quote of %d bytes: %d bytes, %v, want ErrLong", len(c.s), len(got), e)
		}
	}
}

// Told otherwise than the package tells it: by what may stand between the marks, as regular expressions.
var bodies = map[byte]*regexp.Regexp{
	'\'': regexp.MustCompile(`^(?s:[^\x00-\x1f\x7f\\']|\\[nrt\\'"]|\\x[0-9a-f][0-9a-f])*`),
	'"':  regexp.MustCompile(`^(?s:[^\x00-\x1f\x7f\\"]|\\[nrt\\'"]|\\x[0-9a-f][0-9a-f])*`),
}

var escapes = regexp.MustCompile(`\\(x..|.)`)

func said(body string) string {
	return escapes.ReplaceAllStringFunc(body, func(e string) string {
		switch e[1] {
		case 'n':
			return "\x0a"
		case 'r':
			return "\x0d"
		case 't':
			return "\x09"
		case 'x':
			n, _ := strconv.ParseUint(e[2:], 16, 8)
			return string([]byte{byte(n)})
		}
		return e[1:]
	})
}

func wantedCut(t string, at int) (string, int, api.Fault) {
	if at == len(t) || bodies[t[at]] == nil {
		return "", 0, api.Fault{At: at, Code: api.ErrQuote}
	}
	body := bodies[t[at]].FindString(t[at+1:])
	end := at + 1 + len(body)
	switch {
	case end < len(t) && t[end] == t[at]:
		return said(body), end + 1, api.Fault{}
	case end < len(t) && t[end] == '\\':
		return "", 0, api.Fault{At: end, Code: api.ErrSlash}
	}
	return "", 0, api.Fault{At: end, Code: api.ErrUnclosed}
}

func sameCut(t *testing.T, text string, at int) {
	t.Helper()
	s, end, f := quote.Cut(text, at)
	ws, wend, wf := wantedCut(text, at)
	if s != ws || end != wend || f != wf {
		t.Errorf("Cut(%q, %d): %q, %d, %v, want %q, %d, %v", text, at, s, end, f, ws, wend, wf)
	}
}

// Q2: each byte between the marks, and each one behind a backslash.
func TestCutOfEachByte(t *testing.T) {
	for b := range 256 {
		one := string([]byte{byte(b)})
		for _, mark := range []string{"'", `"`} {
			for _, body := range []string{one, "a" + one + "b", `\` + one, `a\` + one + "41z", `\x` + one + "0", `\x0` + one} {
				sameCut(t, mark+body+mark, 0)
				sameCut(t, "ab"+mark+body+mark+"c", 2)
				sameCut(t, mark+body, 0)
			}
		}
		sameCut(t, one+"a'", 0)
	}
}

// Q2: all short texts, at all their places.
func TestCutOfShortTexts(t *testing.T) {
	signs := []string{"'", `"`, `\`, "x", "4", "f", "n", "q", "A", "\n", "\x7f", "\xce"}
	for _, text := range textsOf(signs, 4) {
		for at := range len(text) + 1 {
			sameCut(t, text, at)
		}
		sameCut(t, "'"+text+"'", 0)
		sameCut(t, `"\`+text+`"`, 0)
		sameCut(t, `'\x`+text, 0)
	}
}

// Q2
func TestCut(t *testing.T) {
	for _, c := range []struct {
		t   string
		at  int
		s   string
		end int
		f   api.Fault
	}{
		{`x'ab'y`, 1, "ab", 5, api.Fault{}},
		{`x'ab'y`, 0, "", 0, api.Fault{At: 0, Code: api.ErrQuote}},
		{`x'ab'y`, 4, "", 0, api.Fault{At: 6, Code: api.ErrUnclosed}},
		{`x'ab'y`, 6, "", 0, api.Fault{At: 6, Code: api.ErrQuote}},
		{`''`, 0, "", 2, api.Fault{}},
		{`""''`, 2, "", 4, api.Fault{}},
		{`'"'`, 0, `"`, 3, api.Fault{}},
		{`"'"`, 0, `'`, 3, api.Fault{}},
		{`'\n\r\t\\\'\"\x00\xff'`, 0, "\n\r\t\\'\"\x00\xff", 22, api.Fault{}},
		{`"\n\r\t\\\'\"\x09\xa0"`, 0, "\n\r\t\\'\"\x09\xa0", 22, api.Fault{}},
		{"' ~\x80\xff\xce\xb1'", 0, " ~\x80\xff\xce\xb1", 8, api.Fault{}},
		{`'a\q'`, 0, "", 0, api.Fault{At: 2, Code: api.ErrSlash}},
		{`'ab`, 0, "", 0, api.Fault{At: 3, Code: api.ErrUnclosed}},
		{`'ab"`, 0, "", 0, api.Fault{At: 4, Code: api.ErrUnclosed}},
		{`'`, 0, "", 0, api.Fault{At: 1, Code: api.ErrUnclosed}},
		{`'\'`, 0, "", 0, api.Fault{At: 3, Code: api.ErrUnclosed}},
		{`'\`, 0, "", 0, api.Fault{At: 1, Code: api.ErrSlash}},
		{`'\x`, 0, "", 0, api.Fault{At: 1, Code: api.ErrSlash}},
		{`'\x4`, 0, "", 0, api.Fault{At: 1, Code: api.ErrSlash}},
		{`'\x4'`, 0, "", 0, api.Fault{At: 1, Code: api.ErrSlash}},
		{`'\x41`, 0, "", 0, api.Fault{At: 5, Code: api.ErrUnclosed}},
		{`'\x4A'`, 0, "", 0, api.Fault{At: 1, Code: api.ErrSlash}},
		{`'\X41'`, 0, "", 0, api.Fault{At: 1, Code: api.ErrSlash}},
		{`'\xg0'`, 0, "", 0, api.Fault{At: 1, Code: api.ErrSlash}},
		{"'\\\n'", 0, "", 0, api.Fault{At: 1, Code: api.ErrSlash}},
		{"'a\nb\\q'", 0, "", 0, api.Fault{At: 2, Code: api.ErrUnclosed}},
		{"'a\\q\n", 0, "", 0, api.Fault{At: 2, Code: api.ErrSlash}},
		{"'ab\x1fc", 0, "", 0, api.Fault{At: 3, Code: api.ErrUnclosed}},
		{"'ab\x7f'", 0, "", 0, api.Fault{At: 3, Code: api.ErrUnclosed}},
	} {
		if s, end, f := quote.Cut(c.t, c.at); s != c.s || end != c.end || f != c.f {
			t.Errorf("Cut(%q, %d): %q, %d, %v", c.t, c.at, s, end, f)
		}
	}
}

// Q2: ErrLong comes ahead of ErrRange, and both ahead of what stands in the text.
func TestCutLimits(t *testing.T) {
	whole := "'" + strings.Repeat("a", api.MaxText-2) + "'"
	if s, end, f := quote.Cut(whole, 0); s != whole[1:len(whole)-1] || end != api.MaxText || f != (api.Fault{}) {
		t.Errorf("Cut of a text at its limit: %d bytes, %d, %v", len(s), end, f)
	}
	for _, c := range []struct {
		t  string
		at int
		e  api.Errno
	}{
		{whole + " ", 0, api.ErrLong},
		{whole + " ", -1, api.ErrLong},
		{whole + " ", math.MaxInt, api.ErrLong},
		{whole, api.MaxText + 1, api.ErrRange},
		{whole, -1, api.ErrRange},
		{`'a'`, 4, api.ErrRange},
		{`'a'`, math.MaxInt, api.ErrRange},
		{`'a'`, math.MinInt, api.ErrRange},
		{``, 1, api.ErrRange},
		{``, -1, api.ErrRange},
	} {
		if s, end, f := quote.Cut(c.t, c.at); s != "" || end != 0 || f != (api.Fault{At: 0, Code: c.e}) {
			t.Errorf("Cut of %d bytes at %d: %q, %d, %v, want %v", len(c.t), c.at, s, end, f, c.e)
		}
	}
}

// Q3
func TestUnquote(t *testing.T) {
	whole := "'" + strings.Repeat("a", api.MaxText-2) + "'"
	for _, c := range []struct {
		t, s string
		f    api.Fault
	}{
		{`"it's\x41"`, "it'sA", api.Fault{}},
		{`'it\'s'`, "it's", api.Fault{}},
		{`''`, "", api.Fault{}},
		{whole, whole[1 : len(whole)-1], api.Fault{}},
		{``, "", api.Fault{At: 0, Code: api.ErrQuote}},
		{`x`, "", api.Fault{At: 0, Code: api.ErrQuote}},
		{` 'a'`, "", api.Fault{At: 0, Code: api.ErrQuote}},
		{`'a'b`, "", api.Fault{At: 3, Code: api.ErrQuote}},
		{`'a' `, "", api.Fault{At: 3, Code: api.ErrQuote}},
		{`'''`, "", api.Fault{At: 2, Code: api.ErrQuote}},
		{`''''`, "", api.Fault{At: 2, Code: api.ErrQuote}},
		{"'a'\n", "", api.Fault{At: 3, Code: api.ErrQuote}},
		{`'\x4A'`, "", api.Fault{At: 1, Code: api.ErrSlash}},
		{`'a`, "", api.Fault{At: 2, Code: api.ErrUnclosed}},
		{whole + "'", "", api.Fault{At: 0, Code: api.ErrLong}},
	} {
		if s, f := quote.Unquote(c.t); s != c.s || f != c.f {
			t.Errorf("Unquote(%.20q): %.20q, %v, want %v", c.t, s, f, c.f)
		}
	}
}

// Q3: held against Cut on all short texts.
func TestUnquoteIsCut(t *testing.T) {
	for _, text := range textsOf([]string{"'", `"`, `\`, "n", "a", "\x00"}, 5) {
		s, end, f := quote.Cut(text, 0)
		if f.Code == api.OK && end < len(text) {
			s, f = "", api.Fault{At: end, Code: api.ErrQuote}
		}
		if got, gf := quote.Unquote(text); got != s || gf != f {
			t.Errorf("Unquote(%q): %q, %v, want %q, %v", text, got, gf, s, f)
		}
	}
}

// Q5: Unquote brings back what Quote wrote.
func TestQuoteAndBack(t *testing.T) {
	texts := textsOf([]string{"'", `"`, `\`, "n", "x", "0", "\n", "\x00", "\x7f", "\xff", "\xce\xb1"}, 4)
	for b := range 256 {
		for c := range 256 {
			texts = append(texts, string([]byte{byte(b), byte(c)}))
		}
	}
	texts = append(texts, strings.Repeat("a", api.MaxText-2), strings.Repeat("'", (api.MaxText-2)/2), strings.Repeat("\xff", (api.MaxText-2)/4))
	for _, s := range texts {
		literal, e := quote.Quote(s)
		if e != api.OK {
			t.Errorf("Quote(%.20q): %v", s, e)
		}
		if back, f := quote.Unquote(literal); back != s || f != (api.Fault{}) {
			t.Errorf("Unquote(%.20q): %.20q, %v, want %.20q", literal, back, f, s)
		}
	}
}

// Q5: what Cut tells stands between the places as a literal of its own.
func TestCutStandsAlone(t *testing.T) {
	for _, text := range textsOf([]string{"'", `"`, `\`, "t", "\xce", "\n"}, 5) {
		for at := range len(text) + 1 {
			s, end, f := quote.Cut(text, at)
			if f.Code != api.OK {
				continue
			}
			if alone, f := quote.Unquote(text[at:end]); alone != s || f != (api.Fault{}) {
				t.Errorf("Unquote(%q), cut from %q: %q, %v, want %q", text[at:end], text, alone, f, s)
			}
		}
	}
}
