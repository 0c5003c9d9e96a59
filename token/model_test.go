package token_test

import (
	"math"
	"regexp"
	"slices"
	"strconv"
	"strings"
	"testing"

	"harrow/api"
	"harrow/charset"
	"harrow/token"
)

// The chapter's tables, told otherwise than the package tells them: by regular expressions that are tried in the tables' order.

var (
	gapForm    = regexp.MustCompile(`^(?:[\t\n\r ]|--[^\n]*)*`)
	nameForm   = regexp.MustCompile(`^[A-Za-z_][0-9A-Za-z_]*`)
	numberForm = regexp.MustCompile(`^[0-9]+`)
	letterForm = regexp.MustCompile(`^%[acdglpsuwxACDGLPSUWX]`)
	runesForm  = regexp.MustCompile(`^%u\{([0-9a-f]{1,6})(?:-([0-9a-f]{1,6}))?\}`)
	countForm  = regexp.MustCompile(`^\^[+-]?([0-9]*)`)
	signForm   = regexp.MustCompile(`^(?:%e|%f|<-|->|[/&!?*+().])`)
	groupForm  = regexp.MustCompile(`^\{:(?:([A-Za-z_][0-9A-Za-z_]*):)?`)
	braceForm  = regexp.MustCompile(`^(?::\}|\{\||\|\}|\{~|~\}|\{|\})`)
	escapeForm = regexp.MustCompile(`\\(?:x..|.)`)
)

var bodyForms = map[byte]*regexp.Regexp{
	'\'': regexp.MustCompile(`^(?s:[^\x00-\x1f\x7f\\']|\\[nrt\\'"]|\\x[0-9a-f][0-9a-f])*`),
	'"':  regexp.MustCompile(`^(?s:[^\x00-\x1f\x7f\\"]|\\[nrt\\'"]|\\x[0-9a-f][0-9a-f])*`),
}

var signKinds = map[string]int{
	"%e": 29, "%f": 30,
	"<-": 6, "->": 27, "/": 7, "&": 8, "!": 9, "?": 10, "*": 11, "+": 12, "(": 16, ")": 17, ".": 18,
	"{:": 21, ":}": 22, "{|": 23, "|}": 24, "{~": 25, "~}": 26, "{": 19, "}": 20,
}

var countKinds = map[byte]int{'+': 14, '-': 15}

func wantedLex(text string) ([]api.Token, api.Fault) {
	if len(text) > 65536 {
		return nil, api.Fault{At: 0, Code: api.ErrLong}
	}
	var l []api.Token
	at := 0
	for {
		at += len(gapForm.FindString(text[at:]))
		if at == len(text) {
			return l, api.Fault{}
		}
		t, f := wantedToken(text, at)
		if f != (api.Fault{}) {
			return nil, f
		}
		l = append(l, t)
		at = t.End
	}
}

func wantedToken(text string, at int) (api.Token, api.Fault) {
	rest := text[at:]
	if s := nameForm.FindString(rest); s != "" {
		return wantedName(at, s)
	}
	if s := numberForm.FindString(rest); s != "" {
		return wantedNumber(api.TNumber, at, at+len(s), s, 999999)
	}
	if bodyForms[rest[0]] != nil {
		return wantedLiteral(text, at)
	}
	if rest[0] == '[' {
		return wantedClass(text, at)
	}
	if rest[0] == '^' {
		m := countForm.FindStringSubmatch(rest)
		kind := api.TTimes
		if len(rest) > 1 && countKinds[rest[1]] != 0 {
			kind = countKinds[rest[1]]
		}
		return wantedNumber(kind, at, at+len(m[0]), m[1], 50)
	}
	if strings.HasPrefix(rest, "%u{") {
		return wantedRunes(rest, at)
	}
	if s := letterForm.FindString(rest); s != "" {
		set, _ := charset.Class(s[1])
		return api.Token{Kind: api.TPercent, At: at, End: at + 2, Text: s[1:], Set: set}, api.Fault{}
	}
	if s := signForm.FindString(rest); s != "" {
		return api.Token{Kind: signKinds[s], At: at, End: at + len(s)}, api.Fault{}
	}
	if rest[0] == '%' {
		return api.Token{}, api.Fault{At: at, Code: api.ErrClass}
	}
	if m := groupForm.FindStringSubmatch(rest); m != nil {
		if len(m[1]) > 32 {
			return api.Token{}, api.Fault{At: at + 2, Code: api.ErrLong}
		}
		return api.Token{Kind: api.TGroup, At: at, End: at + len(m[0]), Text: m[1]}, api.Fault{}
	}
	if s := braceForm.FindString(rest); s != "" {
		return api.Token{Kind: signKinds[s], At: at, End: at + len(s)}, api.Fault{}
	}
	return api.Token{}, api.Fault{At: at, Code: api.ErrToken}
}

func wantedName(at int, s string) (api.Token, api.Fault) {
	if len(s) > 32 {
		return api.Token{}, api.Fault{At: at, Code: api.ErrLong}
	}
	return api.Token{Kind: api.TName, At: at, End: at + len(s), Text: s}, api.Fault{}
}

func wantedNumber(kind, at, end int, digits string, most int) (api.Token, api.Fault) {
	if digits == "" || digits[0] == '0' && digits != "0" {
		return api.Token{}, api.Fault{At: at, Code: api.ErrToken}
	}
	n, err := strconv.Atoi(digits)
	if err != nil || n > most {
		return api.Token{}, api.Fault{At: at, Code: api.ErrRange}
	}
	return api.Token{Kind: kind, N: n, At: at, End: end}, api.Fault{}
}

func wantedLiteral(text string, at int) (api.Token, api.Fault) {
	body := bodyForms[text[at]].FindString(text[at+1:])
	end := at + 1 + len(body)
	switch {
	case end == len(text):
		return api.Token{}, api.Fault{At: at, Code: api.ErrOpen}
	case text[end] == '\\':
		return api.Token{}, api.Fault{At: end, Code: api.ErrEscape}
	case text[end] != text[at]:
		return api.Token{}, api.Fault{At: end, Code: api.ErrToken}
	}
	said := escapeForm.ReplaceAllStringFunc(body, func(e string) string {
		switch e[1] {
		case 'n':
			return "\x0a"
		case 'r':
			return "\x0d"
		case 't':
			return "\x09"
		case 'x':
			n, _ := strconv.ParseUint(e[2:], 16, 8)
			return string([]byte{byte(n)})
		}
		return e[1:]
	})
	if len(said) > 255 {
		return api.Token{}, api.Fault{At: at, Code: api.ErrLong}
	}
	return api.Token{Kind: api.TText, At: at, End: end + 1, Text: said}, api.Fault{}
}

func wantedClass(text string, at int) (api.Token, api.Fault) {
	set, end, f := charset.Read(text, at)
	switch {
	case f.Code == api.ErrText && f.At == len(text):
		return api.Token{}, api.Fault{At: at, Code: api.ErrOpen}
	case f != api.Fault{}:
		return api.Token{}, f
	}
	return api.Token{Kind: api.TClass, At: at, End: end, Set: set}, api.Fault{}
}

func wantedRunes(rest string, at int) (api.Token, api.Fault) {
	wrong := api.Fault{At: at, Code: api.ErrRune}
	m := runesForm.FindStringSubmatch(rest)
	if m == nil {
		return api.Token{}, wrong
	}
	if m[2] == "" {
		m[2] = m[1]
	}
	first, _ := strconv.ParseUint(m[1], 16, 64)
	last, _ := strconv.ParseUint(m[2], 16, 64)
	if first > last || last > 1114111 {
		return api.Token{}, wrong
	}
	return api.Token{Kind: api.TRunes, N: int(first), At: at, End: at + len(m[0]), Set: api.Set{last}}, api.Fault{}
}

func sameLex(t *testing.T, text string) {
	t.Helper()
	l, f := token.Lex(text)
	want, wf := wantedLex(text)
	if f != wf || !slices.Equal(l, want) {
		t.Errorf("Lex(%s): %v, %v, want %v, %v", short(text), l, f, want, wf)
	}
}

// What is right, told by what each kind may have; whatever a line does not tell must be zero.
type allowed struct {
	text func(s string) bool
	n    func(t api.Token) bool
	set  func(t api.Token) bool
}

var wholeName = regexp.MustCompile(`^[A-Za-z_][0-9A-Za-z_]{0,31}$`)

func upTo(most int) func(api.Token) bool {
	return func(t api.Token) bool { return 0 <= t.N && t.N <= most }
}

var rightFields = map[int]allowed{
	1:  {text: wholeName.MatchString},
	2:  {text: func(s string) bool { return len(s) < 256 }},
	3:  {set: func(api.Token) bool { return true }},
	4:  {n: upTo(999999)},
	5:  {n: func(api.Token) bool { return true }, set: rightRange},
	13: {n: upTo(50)},
	14: {n: upTo(50)},
	15: {n: upTo(50)},
	21: {text: func(s string) bool { return s == "" || wholeName.MatchString(s) }},
	28: {text: func(s string) bool { return len(s) == 1 && strings.Contains("acdglpsuwxACDGLPSUWX", s) }, set: rightClass},
}

func rightRange(t api.Token) bool {
	last, rest := t.Set[0], t.Set[1]|t.Set[2]|t.Set[3]
	return rest == 0 && last < 0x110000 && 0 <= t.N && t.N <= int(last)
}

func rightClass(t api.Token) bool {
	set, f := charset.Parse("[%" + t.Text + "]")
	return f == api.Fault{} && t.Set == set
}

func wantedRight(t api.Token) bool {
	if t.Kind < 1 || t.Kind > 30 {
		return false
	}
	a := rightFields[t.Kind]
	if a.text == nil && t.Text != "" || a.n == nil && t.N != 0 || a.set == nil && t.Set != (api.Set{}) {
		return false
	}
	return (a.text == nil || a.text(t.Text)) && (a.n == nil || a.n(t)) && (a.set == nil || a.set(t))
}

func wantedByte(b int) string {
	switch b {
	case 10:
		return `\n`
	case 13:
		return `\r`
	case 9:
		return `\t`
	case 39:
		return `\'`
	case 92:
		return `\\`
	}
	if 32 <= b && b <= 126 {
		return string(rune(b))
	}
	const hex = "0123456789abcdef"
	return `\x` + hex[b>>4:b>>4+1] + hex[b&15:b&15+1]
}

// The text of a right token.
func wantedShow(t api.Token) string {
	for s, kind := range signKinds {
		if kind == t.Kind && t.Text == "" {
			return s
		}
	}
	switch t.Kind {
	case api.TText:
		body := ""
		for i := range len(t.Text) {
			body += wantedByte(int(t.Text[i]))
		}
		return "'" + body + "'"
	case api.TClass:
		return charset.Show(t.Set)
	case api.TNumber:
		return strconv.Itoa(t.N)
	case api.TRunes:
		return "%u{" + strconv.FormatInt(int64(t.N), 16) + "-" + strconv.FormatInt(int64(t.Set[0]), 16) + "}"
	case api.TTimes:
		return "^" + strconv.Itoa(t.N)
	case api.TLeast:
		return "^+" + strconv.Itoa(t.N)
	case api.TMost:
		return "^-" + strconv.Itoa(t.N)
	case api.TGroup:
		return "{:" + t.Text + ":"
	case api.TPercent:
		return "%" + t.Text
	}
	return t.Text
}

func wantedText(l []api.Token) (string, api.Errno) {
	if len(l) > 4096 {
		return "", api.ErrLong
	}
	var texts []string
	for _, t := range l {
		if !wantedRight(t) {
			return "", api.ErrShape
		}
		texts = append(texts, wantedShow(t))
	}
	s := strings.Join(texts, " ")
	if len(s) > 65536 {
		return "", api.ErrLong
	}
	return s, api.OK
}

// Tokens without their places.
func bare(l []api.Token) []api.Token {
	var out []api.Token
	for _, t := range l {
		t.At, t.End = 0, 0
		out = append(out, t)
	}
	return out
}

func short(text string) string {
	if len(text) > 200 {
		return strconv.Quote(text[:100]) + "..(" + strconv.Itoa(len(text)) + " bytes).." + strconv.Quote(text[len(text)-50:])
	}
	return strconv.Quote(text)
}

// All lists of at most n members of the alphabet, laid together.
func textsOf(alphabet []string, n int) []string {
	all := []string{""}
	last := all
	for range n {
		var longer []string
		for _, t := range last {
			for _, a := range alphabet {
				longer = append(longer, t+a)
			}
		}
		all = append(all, longer...)
		last = longer
	}
	return all
}

// Numbers without any order in them, the same ones each time.
type scramble uint64

func (x *scramble) below(n int) int {
	*x ^= *x << 13
	*x ^= *x >> 7
	*x ^= *x << 17
	return int(uint64(*x) >> 1 % uint64(n))
}

func newScramble() *scramble {
	x := scramble(88172645463325252)
	return &x
}

// A right token of each kind, with the fields that its kind may have, in several ways.
func rightTokens() []api.Token {
	l := []api.Token{}
	for kind := 1; kind <= 30; kind++ {
		if t := (api.Token{Kind: kind}); wantedRight(t) {
			l = append(l, t)
		}
	}
	for _, s := range []string{"a", "Z", "_", "x9", "__init__", "e", "f", "u", strings.Repeat("n", 32)} {
		l = append(l, api.Token{Kind: api.TName, Text: s}, api.Token{Kind: api.TGroup, Text: s})
	}
	for _, s := range []string{"x", "'", `"`, `\`, "it's\n\xff", "-- no comment", "a b", "\x00\x1f ~\x7f\x80\xff", "\xce\xb1", strings.Repeat("\x01", 255)} {
		l = append(l, api.Token{Kind: api.TText, Text: s})
	}
	for _, s := range []string{"[]", "[^]", "[a-z]", "[^%d_]", `[\]\[\^\-\%\\]`, `[\x00\x1f\x7f-\xff]`, "[ ]", `["']`} {
		set, _ := charset.Parse(s)
		l = append(l, api.Token{Kind: api.TClass, Set: set})
	}
	for _, n := range []int{0, 1, 7, 10, 49, 50, 99, 100, 999998, 999999} {
		l = append(l, api.Token{Kind: api.TNumber, N: n})
		if n <= 50 {
			l = append(l, api.Token{Kind: api.TTimes, N: n}, api.Token{Kind: api.TLeast, N: n}, api.Token{Kind: api.TMost, N: n})
		}
	}
	for _, n := range []int{0, 1, 9, 10, 15, 16, 65, 0xd800, 0xffff, 0x10000, 0x10ffff} {
		l = append(l, api.Token{Kind: api.TRunes, N: n, Set: api.Set{uint64(n)}}, api.Token{Kind: api.TRunes, N: n, Set: api.Set{0x10ffff}}, api.Token{Kind: api.TRunes, Set: api.Set{uint64(n)}})
	}
	for _, c := range "acdglpsuwxACDGLPSUWX" {
		set, _ := charset.Class(byte(c))
		l = append(l, api.Token{Kind: api.TPercent, Text: string(c), Set: set})
	}
	return l
}

func extremes() []int {
	return []int{math.MinInt, -1 << 32, -51, -2, -1, 0, 1, 2, 49, 50, 51, 65, 969, 999999, 1000000, 0x10ffff, 0x110000, 1<<32 + 1, 1<<32 + 50, math.MaxInt}
}
