package token_test

import (
	"slices"
	"strconv"
	"strings"
	"testing"
	"unsafe"

	"harrow/api"
	"harrow/charset"
	"harrow/token"
)

func class(t *testing.T, text string) api.Set {
	t.Helper()
	set, f := charset.Parse(text)
	if f != (api.Fault{}) {
		t.Fatal(text, f)
	}
	return set
}

func lexed(t *testing.T, text string, want ...api.Token) {
	t.Helper()
	l, f := token.Lex(text)
	if f != (api.Fault{}) || !slices.Equal(l, want) {
		t.Errorf("Lex(%s): %v, %v, want %v", short(text), l, f, want)
	}
}

func refused(t *testing.T, text string, at int, code api.Errno) {
	t.Helper()
	l, f := token.Lex(text)
	if f != (api.Fault{At: at, Code: code}) || len(l) != 0 {
		t.Errorf("Lex(%s): %v, %v, want %v at %d", short(text), l, f, code, at)
	}
}

// 5.1: each kind, alone, with all its fields.
func TestLexOfEachKind(t *testing.T) {
	lexed(t, "abc", api.Token{Kind: api.TName, End: 3, Text: "abc"})
	lexed(t, "_9Z", api.Token{Kind: api.TName, End: 3, Text: "_9Z"})
	lexed(t, "'ab'", api.Token{Kind: api.TText, End: 4, Text: "ab"})
	lexed(t, `"ab"`, api.Token{Kind: api.TText, End: 4, Text: "ab"})
	lexed(t, "''", api.Token{Kind: api.TText, End: 2})
	lexed(t, "[a-f]", api.Token{Kind: api.TClass, End: 5, Set: api.Set{0, 0x7e00000000}})
	lexed(t, "[]", api.Token{Kind: api.TClass, End: 2})
	lexed(t, "[^]", api.Token{Kind: api.TClass, End: 3, Set: api.Set{^uint64(0), ^uint64(0), ^uint64(0), ^uint64(0)}})
	lexed(t, "42", api.Token{Kind: api.TNumber, N: 42, End: 2})
	lexed(t, "%u{41}", api.Token{Kind: api.TRunes, N: 65, End: 6, Set: api.Set{65}})
	lexed(t, "%u{41-10ffff}", api.Token{Kind: api.TRunes, N: 65, End: 13, Set: api.Set{0x10ffff}})
	lexed(t, "^7", api.Token{Kind: api.TTimes, N: 7, End: 2})
	lexed(t, "^+7", api.Token{Kind: api.TLeast, N: 7, End: 3})
	lexed(t, "^-7", api.Token{Kind: api.TMost, N: 7, End: 3})
	lexed(t, "{:", api.Token{Kind: api.TGroup, End: 2})
	lexed(t, "{:ab:", api.Token{Kind: api.TGroup, End: 5, Text: "ab"})
	lexed(t, "%d", api.Token{Kind: api.TPercent, End: 2, Text: "d", Set: api.Set{0x3ff << 48}})
	for text, kind := range map[string]int{
		"<-": api.TArrow, "->": api.TMaps, "/": api.TSlash, "&": api.TAnd, "!": api.TNot, "?": api.TQuery, "*": api.TStar, "+": api.TPlus,
		"(": api.TOpen, ")": api.TClose, ".": api.TDot, ":}": api.TUngroup, "{|": api.TList, "|}": api.TUnlist, "{~": api.TSubst, "~}": api.TUnsubst,
		"{": api.TBrace, "}": api.TUnbrace, "%e": api.TEmpty, "%f": api.TFail,
	} {
		lexed(t, text, api.Token{Kind: kind, End: len(text)})
		lexed(t, " "+text+"\n", api.Token{Kind: kind, At: 1, End: 1 + len(text)})
	}
}

// 5.1: the chapter's examples.
func TestLexExamples(t *testing.T) {
	lexed(t, `a <- 'x\n' / [a-z]+ -- note`,
		api.Token{Kind: api.TName, At: 0, End: 1, Text: "a"}, api.Token{Kind: api.TArrow, At: 2, End: 4}, api.Token{Kind: api.TText, At: 5, End: 10, Text: "x\n"},
		api.Token{Kind: api.TSlash, At: 11, End: 12}, api.Token{Kind: api.TClass, At: 13, End: 18, Set: class(t, "[a-z]")}, api.Token{Kind: api.TPlus, At: 18, End: 19})
	lexed(t, "{:k: a :}", api.Token{Kind: api.TGroup, End: 4, Text: "k"}, api.Token{Kind: api.TName, At: 5, End: 6, Text: "a"}, api.Token{Kind: api.TUngroup, At: 7, End: 9})
	lexed(t, "{: a", api.Token{Kind: api.TGroup, End: 2}, api.Token{Kind: api.TName, At: 3, End: 4, Text: "a"})
	lexed(t, "a^+2", api.Token{Kind: api.TName, End: 1, Text: "a"}, api.Token{Kind: api.TLeast, N: 2, At: 1, End: 4})
	lexed(t, "%u{3b1-3c9}", api.Token{Kind: api.TRunes, N: 945, End: 11, Set: api.Set{969}})
	lexed(t, "%d%D", api.Token{Kind: api.TPercent, End: 2, Text: "d", Set: class(t, "[%d]")}, api.Token{Kind: api.TPercent, At: 2, End: 4, Text: "D", Set: class(t, "[^%d]")})
	refused(t, "a$", 1, api.ErrToken)
	refused(t, "'ab", 0, api.ErrOpen)
	refused(t, `'a\q'`, 2, api.ErrEscape)
	refused(t, "a^", 1, api.ErrToken)
	refused(t, "a^51", 1, api.ErrRange)
	refused(t, "007", 0, api.ErrToken)
	refused(t, "%q", 0, api.ErrClass)
	refused(t, "%u{z}", 0, api.ErrRune)
	refused(t, "[a", 0, api.ErrOpen)
	refused(t, "[z-a]", 1, api.ErrRange)
}

// 5.1: one behind the other, with nothing between.
func TestLexOfWhatTouches(t *testing.T) {
	for text, kinds := range map[string][]int{
		"a1":          {api.TName},
		"1a":          {api.TNumber, api.TName},
		"0a":          {api.TNumber, api.TName},
		"0_1":         {api.TNumber, api.TName},
		"a'b'c":       {api.TName, api.TText, api.TName},
		`'a"b''c'`:    {api.TText, api.TText},
		"'a''b'\"c\"": {api.TText, api.TText, api.TText},
		"[a][b]":      {api.TClass, api.TClass},
		"[[]]":        nil,
		"{|{~{:{":     {api.TList, api.TSubst, api.TGroup, api.TBrace},
		"}:}|}~}":     {api.TUnbrace, api.TUngroup, api.TUnlist, api.TUnsubst},
		"{}":          {api.TBrace, api.TUnbrace},
		"{||}":        {api.TList, api.TUnlist},
		"{~~}":        {api.TSubst, api.TUnsubst},
		"{::}":        {api.TGroup, api.TUngroup},
		"{:a:}":       {api.TGroup, api.TUnbrace},
		"{:a::}":      {api.TGroup, api.TUngroup},
		"{:a :}":      {api.TGroup, api.TName, api.TUngroup},
		"{:1:}":       {api.TGroup, api.TNumber, api.TUngroup},
		"{:{:":        {api.TGroup, api.TGroup},
		"{:a^2:}":     {api.TGroup, api.TName, api.TTimes, api.TUngroup},
		"^1^+2^-3":    {api.TTimes, api.TLeast, api.TMost},
		"^1+2":        {api.TTimes, api.TPlus, api.TNumber},
		"^5a":         {api.TTimes, api.TName},
		"<-->":        {api.TArrow, api.TMaps},
		"<--":         nil,
		"<---":        {api.TArrow},
		"->-->":       {api.TMaps},
		"<--\n":       nil,
		"-->":         nil,
		"--":          nil,
		"%d%e%f%u":    {api.TPercent, api.TEmpty, api.TFail, api.TPercent},
		"%u{1}%u":     {api.TRunes, api.TPercent},
		"%ua":         {api.TPercent, api.TName},
		"%u {":        {api.TPercent, api.TBrace},
		"%U{":         {api.TPercent, api.TBrace},
		"%dd":         {api.TPercent, api.TName},
		"%ee":         {api.TEmpty, api.TName},
		"%e{":         {api.TEmpty, api.TBrace},
		"!a&b":        {api.TNot, api.TName, api.TAnd, api.TName},
		"(a/.)*?+":    {api.TOpen, api.TName, api.TSlash, api.TDot, api.TClose, api.TStar, api.TQuery, api.TPlus},
	} {
		l, _ := token.Lex(text)
		var got []int
		for _, x := range l {
			got = append(got, x.Kind)
		}
		if !slices.Equal(got, kinds) {
			t.Errorf("Lex(%q): kinds %v, want %v", text, got, kinds)
		}
		sameLex(t, text)
	}
}

// 5.1: nothing but what stands between tokens.
func TestLexOfNothing(t *testing.T) {
	for _, text := range []string{"", " ", "\t\n\r ", "--", "-- note", "--\n", "-- a\n-- b\n", "--'\n", "--\xff\x00\x7f", "---", "--\r$", " -- $\n ", strings.Repeat(" ", api.MaxText), strings.Repeat("-", api.MaxText)} {
		lexed(t, text)
	}
	lexed(t, "--a\nb--c\nd--e",
		api.Token{Kind: api.TName, At: 4, End: 5, Text: "b"}, api.Token{Kind: api.TName, At: 9, End: 10, Text: "d"})
	lexed(t, "--a\rb\n.", api.Token{Kind: api.TDot, At: 6, End: 7})
}

// 5.1: no byte but four is a blank, and each byte alone is what it is.
func TestLexOfEachByte(t *testing.T) {
	for b := range 256 {
		one := string([]byte{byte(b)})
		for _, text := range []string{one, one + one, "a" + one, one + "a", "a" + one + "b", "." + one + ".", "1" + one, "^" + one, "^1" + one, "^+" + one + "1", "{" + one, one + "}", "{:" + one + ":", "{:a" + one, "{:a" + one + ":",
			"%" + one, "%" + one + "{", "%u" + one, "%u{" + one, "%u{" + one + "}", "%u{1" + one, "%u{1" + one + "}", "%u{1" + one + "2}", "%u{1-" + one + "}", "%u{1-2" + one, "<" + one, "-" + one, "--" + one + ".", "--" + one + "\n.",
			"'" + one + "'", `"` + one + `"`, "'" + one, "'\\" + one + "'", "'\\" + one + "00'", "'\\x" + one + "0'", "'\\x0" + one + "'", "[" + one + "]", "[" + one, "[\\" + one + "]", "[a-" + one + "]", "[%" + one + "]"} {
			sameLex(t, text)
		}
		if strings.Contains("\t\n\r ", one) {
			lexed(t, one)
			lexed(t, "a"+one+"b", api.Token{Kind: api.TName, End: 1, Text: "a"}, api.Token{Kind: api.TName, At: 2, End: 3, Text: "b"})
		} else if b < 32 || b > 126 || strings.Contains("#$,:;<=>@\\]`|~-", one) {
			refused(t, one, 0, api.ErrToken)
			refused(t, "a."+one+"b", 2, api.ErrToken)
		}
	}
}

// 5.1: all short texts of the bytes that tell tokens apart, and all short lists of pieces.
func TestLexOfShortTexts(t *testing.T) {
	signs := strings.Split("a0-<>^+%u{:}|~'\\x[]\n $", "")
	for _, text := range textsOf(signs, 4) {
		sameLex(t, text)
	}
	pieces := []string{"a", "e", "u", "9", "0", "50", "51", "'", `"`, `\`, `\x`, `\x4f`, `\n`, "4f", "-", "--", "<-", "->", "^", "^+", "^-", "%", "%u{", "%d", "%e", "{", "{:", "{:k:", ":", ":}", "|", "}", "~", "[", "[a", "z-a]", "]", " ", "\n", "\x00", "\x7f", "\xff", "'x'", "[%q]", "110000"}
	for _, text := range textsOf(pieces, 3) {
		sameLex(t, text)
	}
}

// 5.1: longer texts without any order in them.
func TestLexOfScrambledTexts(t *testing.T) {
	x := newScramble()
	good := []string{"a", "rule_1", " ", "\n", "-- c\n", "'x y'", `"\x00\\"`, "[^a-z]", "%s", "%u{0-10ffff}", "<-", "->", "/", "^3", "^+0", "^-50", "{:k:", ":}", "{|", "|}", "{~", "~}", "{", "}", "(", ")", ".", "77", "&", "!", "?", "*", "+", "%e", "%f"}
	bad := append(slices.Clone(good), "$", "'", "[", "%", "^", "007", "-", ":", "\x01", "^99", "1234567", "%u{", `'\z'`)
	for round := range 4000 {
		from := good
		if round%2 == 1 && round > 100 {
			from = bad
		}
		text := ""
		for range x.below(30) {
			text += from[x.below(len(from))]
		}
		sameLex(t, text)
	}
}

// 5.1: names.
func TestLexOfNames(t *testing.T) {
	for b := range 256 {
		one := string([]byte{byte(b)})
		sameLex(t, one+"x")
		sameLex(t, "x"+one+"y")
	}
	most := strings.Repeat("n", api.MaxName)
	lexed(t, "."+most, api.Token{Kind: api.TDot, End: 1}, api.Token{Kind: api.TName, At: 1, End: 33, Text: most})
	refused(t, "."+most+"1", 1, api.ErrLong)
	refused(t, "."+most+"_ $", 1, api.ErrLong)
	lexed(t, "{:"+most+":", api.Token{Kind: api.TGroup, End: 35, Text: most})
	refused(t, ".{:"+most+"n:", 3, api.ErrLong)
	refused(t, ".{:"+most+"n", 3, api.ErrLong)
	refused(t, ".{: "+most+"n:", 4, api.ErrLong)
	lexed(t, "{:"+most, api.Token{Kind: api.TGroup, End: 2}, api.Token{Kind: api.TName, At: 2, End: 34, Text: most})
	refused(t, strings.Repeat("a", api.MaxText), 0, api.ErrLong)
}

// 5.1: numbers and counts.
func TestLexOfNumbers(t *testing.T) {
	for n := range 1200 {
		s := strconv.Itoa(n)
		lexed(t, s, api.Token{Kind: api.TNumber, N: n, End: len(s)})
		for sign, kind := range map[string]int{"^": api.TTimes, "^+": api.TLeast, "^-": api.TMost} {
			text := "a" + sign + s
			if n <= api.MaxTimes {
				lexed(t, text, api.Token{Kind: api.TName, End: 1, Text: "a"}, api.Token{Kind: kind, N: n, At: 1, End: len(text)})
			} else {
				refused(t, text, 1, api.ErrRange)
			}
			refused(t, "a"+sign+"0"+s, 1, api.ErrToken)
			refused(t, "a"+sign, 1, api.ErrToken)
			refused(t, "a"+sign+" "+s, 1, api.ErrToken)
			refused(t, "a"+sign+"\n", 1, api.ErrToken)
		}
		refused(t, " 0"+s, 1, api.ErrToken)
	}
	lexed(t, "999999", api.Token{Kind: api.TNumber, N: 999999, End: 6})
	refused(t, "1000000", 0, api.ErrRange)
	refused(t, "9999999", 0, api.ErrRange)
	refused(t, "18446744073709551621", 0, api.ErrRange)
	refused(t, "^18446744073709551621", 0, api.ErrRange)
	refused(t, strings.Repeat("9", api.MaxText), 0, api.ErrRange)
	refused(t, "^"+strings.Repeat("1", 100), 0, api.ErrRange)
	refused(t, "0000000", 0, api.ErrToken)
	refused(t, "0999999", 0, api.ErrToken)
	refused(t, "^0000001", 0, api.ErrToken)
	refused(t, "^++1", 0, api.ErrToken)
	refused(t, "^--1", 0, api.ErrToken)
	refused(t, "^-- 1", 0, api.ErrToken)
	refused(t, "^a", 0, api.ErrToken)
	refused(t, "^^1", 0, api.ErrToken)
}

// 5.1: literals.
func TestLexOfLiterals(t *testing.T) {
	for text, want := range map[string]string{
		`'\n\r\t\\\'\"'`: "\n\r\t\\'\"",
		`"\n\r\t\\\'\""`: "\n\r\t\\'\"",
		`'"'`:            `"`,
		`"'"`:            "'",
		`'\x00\x7f\xff'`: "\x00\x7f\xff",
		`'\x4f4'`:        "O4",
		`'--'`:           "--",
		"'a b'":          "a b",
		"' ~'":           " ~",
		"'\x80\xff'":     "\x80\xff",
		"'\xce\xb1'":     "\xce\xb1",
		`'\\'`:           `\`,
		`'\\n'`:          `\n`,
	} {
		lexed(t, text, api.Token{Kind: api.TText, End: len(text), Text: want})
		lexed(t, "/"+text+"/", api.Token{Kind: api.TSlash, End: 1}, api.Token{Kind: api.TText, At: 1, End: 1 + len(text), Text: want}, api.Token{Kind: api.TSlash, At: 1 + len(text), End: 2 + len(text)})
	}
	refused(t, "a'", 1, api.ErrOpen)
	refused(t, `a"b'`, 1, api.ErrOpen)
	refused(t, `a'b\'`, 1, api.ErrOpen)
	refused(t, `a'b\`, 3, api.ErrEscape)
	refused(t, `a'b\x`, 3, api.ErrEscape)
	refused(t, `a'b\x4`, 3, api.ErrEscape)
	refused(t, `a'b\x4'`, 3, api.ErrEscape)
	refused(t, `a'b\x4F'`, 3, api.ErrEscape)
	refused(t, `a'b\xG0'`, 3, api.ErrEscape)
	refused(t, `a'b\N'`, 3, api.ErrEscape)
	refused(t, "a'b\\\n'", 3, api.ErrEscape)
	refused(t, "a'b\n", 3, api.ErrToken)
	refused(t, "a'b\tc'", 3, api.ErrToken)
	refused(t, "a'b\x7f\\q'", 3, api.ErrToken)
	refused(t, "a'b\\q\x7f'", 3, api.ErrEscape)
}

// 5.1: a literal's length is counted in the bytes that it says, and told when nothing else is wrong with it.
func TestLexOfLongLiterals(t *testing.T) {
	for _, part := range []struct{ text, says string }{{"a", "a"}, {`\x41`, "A"}, {`\n`, "\n"}, {"\xce", "\xce"}, {`"`, `"`}} {
		most := strings.Repeat(part.text, 255)
		lexed(t, ".'"+most+"'", api.Token{Kind: api.TDot, End: 1}, api.Token{Kind: api.TText, At: 1, End: 3 + len(most), Text: strings.Repeat(part.says, 255)})
		refused(t, ".'"+most+part.text+"'", 1, api.ErrLong)
		refused(t, ".'"+most+part.text+"' $", 1, api.ErrLong)
		refused(t, ".'"+most+part.text, 1, api.ErrOpen)
		refused(t, ".'"+most+part.text+"\n'", 2+len(most)+len(part.text), api.ErrToken)
		refused(t, ".'"+most+part.text+`\q'`, 2+len(most)+len(part.text), api.ErrEscape)
	}
	refused(t, "'"+strings.Repeat("a", api.MaxText-2)+"'", 0, api.ErrLong)
	refused(t, "'"+strings.Repeat("a", api.MaxText-1), 0, api.ErrOpen)
}

// 5.1: classes.
func TestLexOfClasses(t *testing.T) {
	for _, text := range []string{"[]", "[^]", "[a-z]", "[^a-z_]", "[%d%S]", `[\n\r\t\\\]\[\^\-\%]`, `[\x00-\xff]`, "[ ]", "['\"]", "[--]", "[a^]", "[^^]", "[[]", "[{:k:]"} {
		set, f := charset.Parse(text)
		if f != (api.Fault{}) {
			sameLex(t, text)
			continue
		}
		lexed(t, text, api.Token{Kind: api.TClass, End: len(text), Set: set})
		lexed(t, "a"+text+"*", api.Token{Kind: api.TName, End: 1, Text: "a"}, api.Token{Kind: api.TClass, At: 1, End: 1 + len(text), Set: set}, api.Token{Kind: api.TStar, At: 1 + len(text), End: 2 + len(text)})
	}
	refused(t, "a[", 1, api.ErrOpen)
	refused(t, "a[^", 1, api.ErrOpen)
	refused(t, "a[b", 1, api.ErrOpen)
	refused(t, "a[b-", 1, api.ErrOpen)
	refused(t, "a[b-c", 1, api.ErrOpen)
	refused(t, `a[\]`, 1, api.ErrOpen)
	refused(t, `a[\`, 2, api.ErrText)
	refused(t, `a[\x4`, 2, api.ErrText)
	refused(t, `a[b\q]`, 3, api.ErrText)
	refused(t, "a[b-]", 4, api.ErrText)
	refused(t, "a[b\n]", 3, api.ErrText)
	refused(t, "a[\x80]", 2, api.ErrText)
	refused(t, "a[b%]", 3, api.ErrClass)
	refused(t, "a[b%", 3, api.ErrClass)
	refused(t, "a[b%e]", 3, api.ErrClass)
	refused(t, "a[bz-a]", 3, api.ErrRange)
	refused(t, "a[bz-a", 3, api.ErrRange)
	refused(t, "a]", 1, api.ErrToken)
}

// 5.1: what begins with %.
func TestLexOfPercents(t *testing.T) {
	for b := range 256 {
		one := string([]byte{byte(b)})
		set, f := charset.Parse("[%" + one + "]")
		switch {
		case f == api.Fault{}:
			lexed(t, ".%"+one, api.Token{Kind: api.TDot, End: 1}, api.Token{Kind: api.TPercent, At: 1, End: 3, Text: one, Set: set})
		case one == "e":
			lexed(t, ".%e", api.Token{Kind: api.TDot, End: 1}, api.Token{Kind: api.TEmpty, At: 1, End: 3})
		case one == "f":
			lexed(t, ".%f", api.Token{Kind: api.TDot, End: 1}, api.Token{Kind: api.TFail, At: 1, End: 3})
		default:
			refused(t, ".%"+one, 1, api.ErrClass)
			refused(t, ".%"+one+"{", 1, api.ErrClass)
		}
	}
	refused(t, "%", 0, api.ErrClass)
	refused(t, ".%", 1, api.ErrClass)
	refused(t, "%%d", 0, api.ErrClass)
	refused(t, "% d", 0, api.ErrClass)
}

// 5.1: code points.
func TestLexOfRunes(t *testing.T) {
	for text, want := range map[string][2]int{
		"0": {0, 0}, "00": {0, 0}, "000000": {0, 0}, "a": {10, 10}, "f-f": {15, 15}, "41": {65, 65}, "000041": {65, 65}, "0-10ffff": {0, 0x10ffff}, "10ffff": {0x10ffff, 0x10ffff},
		"d800-dfff": {0xd800, 0xdfff}, "3b1-3c9": {945, 969}, "0003b1-0003c9": {945, 969}, "abcdef-10abcd": {-1, 0}, "9-10": {9, 16},
	} {
		if want[0] < 0 {
			refused(t, "%u{"+text+"}", 0, api.ErrRune)
			continue
		}
		lexed(t, " %u{"+text+"}a", api.Token{Kind: api.TRunes, N: want[0], At: 1, End: 5 + len(text), Set: api.Set{uint64(want[1])}}, api.Token{Kind: api.TName, At: 5 + len(text), End: 6 + len(text), Text: "a"})
	}
	for _, text := range []string{"%u{", "%u{}", "%u{-}", "%u{1", "%u{1-", "%u{1-}", "%u{1-2", "%u{-1}", "%u{1-2-3}", "%u{ 1}", "%u{1 }", "%u{1 -2}", "%u{1- 2}", "%u{1--2}", "%u{1--2\n}", "%u{+1}", "%u{z}", "%u{3B1}", "%u{1g}", "%u{1-2g}", "%u{0000000}", "%u{0000001}", "%u{1-0000002}", "%u{110000}", "%u{0-110000}", "%u{ffffff}", "%u{ffffff-0}", "%u{1000000}", "%u{5-4}", "%u{10-f}", "%u{10ffff-0}", "%u{\x00}", "%u{1:}", "%u{1|}", "%u{" + strings.Repeat("f", 100) + "}"} {
		refused(t, text, 0, api.ErrRune)
		refused(t, "ab "+text+" $", 3, api.ErrRune)
	}
}

// 5.1: of several things that are wrong the first one from the front is told.
func TestLexTellsTheFirstFault(t *testing.T) {
	wrongs := []struct {
		text string
		at   int
		code api.Errno
	}{
		{"$", 0, api.ErrToken}, {"'a\n'", 2, api.ErrToken}, {`'\q'`, 1, api.ErrEscape}, {"^ ", 0, api.ErrToken}, {"^51", 0, api.ErrRange}, {"00", 0, api.ErrToken}, {"1234567", 0, api.ErrRange},
		{"%q", 0, api.ErrClass}, {"%u{z}", 0, api.ErrRune}, {"[z-a]", 1, api.ErrRange}, {"[a%q]", 2, api.ErrClass}, {`[a\q]`, 2, api.ErrText}, {strings.Repeat("n", 33), 0, api.ErrLong},
		{"{:" + strings.Repeat("n", 33) + ":", 2, api.ErrLong}, {"'" + strings.Repeat("n", 256) + "'", 0, api.ErrLong}, {": ", 0, api.ErrToken}, {"~", 0, api.ErrToken}, {"-", 0, api.ErrToken},
	}
	for _, a := range wrongs {
		refused(t, a.text, a.at, a.code)
		for _, b := range append(wrongs, wrongs[0]) {
			refused(t, "a <- "+a.text+" / "+b.text, 5+a.at, a.code)
		}
		if !strings.Contains(a.text, "\n") {
			refused(t, "-- "+a.text+"\n. "+a.text, 3+len(a.text)+3+a.at, a.code)
		}
		refused(t, a.text+" 'a", a.at, a.code)
		refused(t, a.text+" [a", a.at, a.code)
	}
}

// 5.1: the text's limit comes ahead of all else; the number of tokens has none.
func TestLexLimits(t *testing.T) {
	refused(t, strings.Repeat(" ", api.MaxText+1), 0, api.ErrLong)
	refused(t, "$"+strings.Repeat(" ", api.MaxText), 0, api.ErrLong)
	refused(t, "--"+strings.Repeat("a", api.MaxText-1), 0, api.ErrLong)
	refused(t, strings.Repeat(" ", 1<<20), 0, api.ErrLong)
	refused(t, strings.Repeat(" ", api.MaxText-1)+"$", api.MaxText-1, api.ErrToken)
	lexed(t, strings.Repeat(" ", api.MaxText-1)+".", api.Token{Kind: api.TDot, At: api.MaxText - 1, End: api.MaxText})
	for _, text := range []string{strings.Repeat(".", api.MaxText), strings.Repeat("a ", api.MaxText/2), strings.Repeat("'\\x41'/", api.MaxText/7), strings.Repeat("-- \n.\n", api.MaxText/6)} {
		sameLex(t, text)
	}
	if l, f := token.Lex(strings.Repeat(".", api.MaxText)); len(l) != api.MaxText || f != (api.Fault{}) {
		t.Error(len(l), f)
	}
}

func within(s, text string) bool {
	if s == "" || text == "" {
		return false
	}
	from, at := uintptr(unsafe.Pointer(unsafe.StringData(text))), uintptr(unsafe.Pointer(unsafe.StringData(s)))
	return at >= from && at < from+uintptr(len(text))
}

// 5.1, R4: the tokens share nothing with the text, nor with another answer.
func TestLexAnswersNewMemory(t *testing.T) {
	text := strings.Repeat("name_a 'literal' {:group: %d [a-z] ^3 \"it's\" ", 3)
	l, _ := token.Lex(text)
	want, _ := wantedLex(text)
	for _, x := range l {
		if within(x.Text, text) {
			t.Errorf("%q lies in the text", x.Text)
		}
	}
	again, _ := token.Lex(text)
	for i := range l[:cap(l)] {
		l[:cap(l)][i] = api.Token{Kind: -1, Text: "spoilt"}
	}
	if !slices.Equal(again, want) {
		t.Error("another answer was changed")
	}
	third, _ := token.Lex(text)
	if !slices.Equal(third, want) {
		t.Error("a later answer was changed")
	}
}
