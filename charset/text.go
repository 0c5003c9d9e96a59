package charset

import (
	"strings"

	"harrow/api"
)

// No capitals: a text is read in just the form in which it is told.
const hexDigits = "0123456789abcdef"

func Show(s api.Set) string {
	if Full(s) {
		return "[^]"
	}
	var text strings.Builder
	text.WriteByte('[')
	for _, span := range Spans(s) {
		text.WriteString(showSpan(span))
	}
	text.WriteByte(']')
	return text.String()
}

func showSpan(span api.Span) string {
	switch span.Hi - span.Lo {
	case 0:
		return showItem(span.Lo)
	case 1:
		return showItem(span.Lo) + showItem(span.Hi)
	}
	return showItem(span.Lo) + "-" + showItem(span.Hi)
}

func showItem(b int) string {
	switch {
	case b == '\n':
		return `\n`
	case b == '\r':
		return `\r`
	case b == '\t':
		return `\t`
	case isSign(b):
		return `\` + string([]byte{byte(b)})
	case isPrintable(b):
		return string([]byte{byte(b)})
	}
	return `\x` + string([]byte{hexDigits[b/16], hexDigits[b%16]})
}

// The signs that a class text has for itself, and so tells behind a backslash.
func isSign(b int) bool {
	switch b {
	case '\\', ']', '[', '^', '-', '%':
		return true
	}
	return false
}

func isPrintable(b int) bool {
	return b >= 32 && b <= 126
}

// A text of any length will do here: only the class text itself is looked at.
func Read(text string, at int) (api.Set, int, api.Fault) {
	if at < 0 || at > len(text) {
		return api.Set{}, 0, api.Fault{At: 0, Code: api.ErrRange}
	}
	if !standsAt(text, at, '[') {
		return api.Set{}, 0, api.Fault{At: at, Code: api.ErrText}
	}
	place := at + 1
	others := standsAt(text, place, '^')
	if others {
		place++
	}
	s, place, f := readMembers(text, place)
	if f.Code != api.OK {
		return api.Set{}, 0, f
	}
	if others {
		s = Not(s)
	}
	return s, place + 1, api.Fault{}
}

func Parse(text string) (api.Set, api.Fault) {
	if len(text) > api.MaxText {
		return api.Set{}, api.Fault{At: 0, Code: api.ErrLong}
	}
	s, end, f := Read(text, 0)
	if f.Code != api.OK {
		return api.Set{}, f
	}
	if end < len(text) {
		return api.Set{}, api.Fault{At: end, Code: api.ErrText}
	}
	return s, api.Fault{}
}

// The place that it answers is that of the closing bracket.
func readMembers(text string, at int) (api.Set, int, api.Fault) {
	var s api.Set
	for !standsAt(text, at, ']') {
		member, next, f := readMember(text, at)
		if f.Code != api.OK {
			return api.Set{}, 0, f
		}
		s = Union(s, member)
		at = next
	}
	return s, at, api.Fault{}
}

func readMember(text string, at int) (api.Set, int, api.Fault) {
	if standsAt(text, at, '%') {
		return readClass(text, at)
	}
	lo, next, ok := readItem(text, at)
	if !ok {
		return api.Set{}, 0, api.Fault{At: at, Code: api.ErrText}
	}
	if !standsAt(text, next, '-') {
		return bytesFrom(lo, lo), next, api.Fault{}
	}
	hi, end, ok := readItem(text, next+1)
	if !ok {
		return api.Set{}, 0, api.Fault{At: next + 1, Code: api.ErrText}
	}
	if hi < lo {
		return api.Set{}, 0, api.Fault{At: at, Code: api.ErrRange}
	}
	return bytesFrom(lo, hi), end, api.Fault{}
}

func readClass(text string, at int) (api.Set, int, api.Fault) {
	if at+1 < len(text) {
		if s, e := Class(text[at+1]); e == api.OK {
			return s, at + 2, api.Fault{}
		}
	}
	return api.Set{}, 0, api.Fault{At: at, Code: api.ErrClass}
}

func readItem(text string, at int) (b, next int, ok bool) {
	if at >= len(text) {
		return 0, 0, false
	}
	switch c := text[at]; {
	case c == '\\':
		return readEscape(text, at)
	case c == ']' || c == '-' || c == '%' || !isPrintable(int(c)):
		return 0, 0, false
	default:
		return int(c), at + 1, true
	}
}

func readEscape(text string, at int) (b, next int, ok bool) {
	if at+1 >= len(text) {
		return 0, 0, false
	}
	switch c := text[at+1]; {
	case c == 'n':
		return '\n', at + 2, true
	case c == 'r':
		return '\r', at + 2, true
	case c == 't':
		return '\t', at + 2, true
	case c == 'x':
		return readHex(text, at)
	case isSign(int(c)):
		return int(c), at + 2, true
	}
	return 0, 0, false
}

func readHex(text string, at int) (b, next int, ok bool) {
	if at+3 >= len(text) {
		return 0, 0, false
	}
	high := strings.IndexByte(hexDigits, text[at+2])
	low := strings.IndexByte(hexDigits, text[at+3])
	if high < 0 || low < 0 {
		return 0, 0, false
	}
	return 16*high + low, at + 4, true
}

func standsAt(text string, at int, c byte) bool {
	return at < len(text) && text[at] == c
}
