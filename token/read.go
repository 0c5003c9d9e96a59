package token

import (
	"harrow/api"
	"harrow/charset"
	"harrow/quote"
)

const (
	runesSign = "%u{"
	maxDigits = 6
	maxNumber = 999999
	lastPoint = 0x10ffff
)

// A byte stands at at, neither a blank nor in a comment.
func readToken(text string, at int) (api.Token, api.Fault) {
	switch b := text[at]; {
	case beginsName(b):
		return readName(text, at)
	case isDigit(b):
		return readNumber(text, at, at, api.TNumber)
	case b == '\'' || b == '"':
		return readLiteral(text, at)
	case b == '[':
		return readClass(text, at)
	case b == '%':
		return readPercent(text, at)
	}
	return readSign(text, at)
}

func fault(at int, e api.Errno) (api.Token, api.Fault) {
	return api.Token{}, api.Fault{At: at, Code: e}
}

func readName(text string, at int) (api.Token, api.Fault) {
	end := runEnd(text, at, isOfName)
	if end-at > api.MaxName {
		return fault(at, api.ErrLong)
	}
	return api.Token{Kind: api.TName, At: at, End: end, Text: copied(text[at:end])}, api.Fault{}
}

// readNumber reads a number, or a count whose digits stand at digits.
func readNumber(text string, at, digits, kind int) (api.Token, api.Fault) {
	end := runEnd(text, digits, isDigit)
	size := end - digits
	if size == 0 || size > 1 && text[digits] == '0' {
		return fault(at, api.ErrToken)
	}
	if size > maxDigits {
		return fault(at, api.ErrRange)
	}
	n := numberOf(text[digits:end], 10)
	if n > greatest(kind) {
		return fault(at, api.ErrRange)
	}
	return api.Token{Kind: kind, N: n, At: at, End: end}, api.Fault{}
}

func readLiteral(text string, at int) (api.Token, api.Fault) {
	s, end, f := quote.Cut(text, at)
	switch {
	case f.Code == api.ErrSlash:
		return fault(f.At, api.ErrEscape)
	case f.Code == api.ErrUnclosed && f.At < len(text):
		return fault(f.At, api.ErrToken)
	case f.Code != api.OK:
		return fault(at, api.ErrOpen)
	case len(s) > api.MaxLiteral:
		return fault(at, api.ErrLong)
	}
	return api.Token{Kind: api.TText, At: at, End: end, Text: s}, api.Fault{}
}

func readClass(text string, at int) (api.Token, api.Fault) {
	set, end, f := charset.Read(text, at)
	if f.Code == api.ErrText && f.At == len(text) {
		return fault(at, api.ErrOpen)
	}
	if f.Code != api.OK {
		return fault(f.At, f.Code)
	}
	return api.Token{Kind: api.TClass, At: at, End: end, Set: set}, api.Fault{}
}

func readPercent(text string, at int) (api.Token, api.Fault) {
	if standsAt(text, at, runesSign) {
		return readRunes(text, at)
	}
	if signAt(text, at).kind != 0 {
		return readSign(text, at)
	}
	if at+1 < len(text) {
		if set, e := charset.Class(text[at+1]); e == api.OK {
			return api.Token{Kind: api.TPercent, At: at, End: at + 2, Text: copied(text[at+1 : at+2]), Set: set}, api.Fault{}
		}
	}
	return fault(at, api.ErrClass)
}

func readRunes(text string, at int) (api.Token, api.Fault) {
	first, place, ok := readPoint(text, at+len(runesSign))
	last := first
	if !ok {
		goto wrong
	}
	if !standsAt(text, place, "-") {
		goto end
	}
	last, place, ok = readPoint(text, place+1)
	if !ok || first > last {
		goto wrong
	}

end:
	if standsAt(text, place, "}") {
		return api.Token{Kind: api.TRunes, N: first, At: at, End: place + 1, Set: api.Set{uint64(last)}}, api.Fault{}
	}

wrong:
	return fault(at, api.ErrRune)
}

func readPoint(text string, at int) (point, end int, ok bool) {
	end = runEnd(text, at, isHexDigit)
	if end == at || end-at > maxDigits {
		return 0, at, false
	}
	point = numberOf(text[at:end], 16)
	return point, end, point <= lastPoint
}

func readSign(text string, at int) (api.Token, api.Fault) {
	s := signAt(text, at)
	behind := at + len(s.text)
	switch s.kind {
	case 0:
		return fault(at, api.ErrToken)
	case api.TTimes, api.TLeast, api.TMost:
		return readNumber(text, at, behind, s.kind)
	case api.TGroup:
		return readGroup(text, at, behind)
	}
	return api.Token{Kind: s.kind, At: at, End: behind}, api.Fault{}
}

// readGroup reads what begins a group whose sign ends at behind. A name without a colon behind it is left to be read as a token of its own.
func readGroup(text string, at, behind int) (api.Token, api.Fault) {
	nameless := api.Token{Kind: api.TGroup, At: at, End: behind}
	if behind == len(text) || !beginsName(text[behind]) {
		return nameless, api.Fault{}
	}
	name, f := readName(text, behind)
	if f.Code != api.OK {
		return api.Token{}, f
	}
	if !standsAt(text, name.End, ":") {
		return nameless, api.Fault{}
	}
	return api.Token{Kind: api.TGroup, At: at, End: name.End + 1, Text: name.Text}, api.Fault{}
}

// A token keeps nothing of the text that it was read from.
func copied(s string) string {
	return string([]byte(s))
}
