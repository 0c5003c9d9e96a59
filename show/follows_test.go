package show_test

import (
	"math"
	"slices"
	"strings"
	"testing"
	"unsafe"

	"harrow/api"
	"harrow/notation"
	"harrow/show"
	"harrow/token"
)

func sameRule(a, b api.Rule) bool {
	return a.Name == b.Name && slices.Equal(a.Body, b.Body)
}

func sameGrammar(a, b api.Grammar) bool {
	return slices.EqualFunc(a.Rules, b.Rules, sameRule)
}

// thereAndBack says that a pattern is told, read as it, and told again as it was.
func thereAndBack(t *testing.T, p api.Pattern) {
	t.Helper()
	s, e := show.Pattern(p)
	q, f := notation.Pattern(s)
	if e != api.OK || f != (api.Fault{}) || !slices.Equal(p, q) {
		t.Errorf("Pattern(%v): %s, %v, which is read as %v, %v", brief(p), short(s), e, brief(q), f)
	}
	if again, e := show.Pattern(q); again != s || e != api.OK {
		t.Errorf("%s is told as %s, %v", short(s), short(again), e)
	}
	grammarBack(t, grammar(rule("", p...)))
}

func grammarBack(t *testing.T, g api.Grammar) {
	t.Helper()
	s, e := show.Grammar(g)
	h, f := notation.Parse(s)
	if e != api.OK || f != (api.Fault{}) || !sameGrammar(g, h) {
		t.Errorf("Grammar of %d rules: %s, %v, which is read as %v", len(g.Rules), short(s), e, f)
	}
	if again, e := show.Grammar(h); again != s || e != api.OK {
		t.Errorf("%s is told as %s, %v", short(s), short(again), e)
	}
}

// 7.3: what is told of a pattern is read as it.
func TestPatternsComeBack(t *testing.T) {
	for _, p := range somePatterns() {
		thereAndBack(t, p)
	}
	for kind := api.PEmpty; kind <= api.PPick; kind++ {
		for _, middle := range aboveEach(smallOf(kind)) {
			for _, p := range aboveEach(middle) {
				thereAndBack(t, p)
			}
		}
	}
}

// 7.3: so it is at the limits: patterns that are as high, as large and as long as may be.
func TestLargestPatternsComeBack(t *testing.T) {
	x := call("x")
	for _, kind := range kindsWith(1) {
		thereAndBack(t, tower(59, nodeOf(kind), x))
		for _, other := range kindsWith(1) {
			mixed := list(x)
			for range 29 {
				mixed = append(mixed, nodeOf(kind), nodeOf(other))
			}
			thereAndBack(t, append(mixed, nodeOf(kind)))
		}
		// Each part in parentheses, and a sign of its own besides.
		for _, join := range kindsWith(2) {
			mixed := list(x)
			for range 29 {
				mixed = append(slices.Concat(list(x), mixed), op(join), nodeOf(kind))
			}
			thereAndBack(t, mixed)
		}
	}
	for _, join := range kindsWith(2) {
		thereAndBack(t, append(row(join, 1023, x), op(api.PStar)))
		thereAndBack(t, rightRow(join, 59, x))
	}
	for _, n := range []int{65530, 65534, 65535} {
		thereAndBack(t, rowOfBytes(n))
	}
	s, _ := show.Pattern(rowOfBytes(65536))
	if p, f := notation.Pattern(s); len(s) != 65536 || f != (api.Fault{}) || !slices.Equal(p, rowOfBytes(65536)) {
		t.Error(len(s), f)
	}
	thereAndBack(t, list(lit(times("\xff", 255))))
	thereAndBack(t, list(x, template(times("%%", 127))))
	thereAndBack(t, list(call(times("n", 32)), group(times("m", 32))))
}

// 7.3: what is told of a grammar is read as it.
func TestGrammarsComeBack(t *testing.T) {
	x := newScramble()
	for i := range 2000 {
		grammarBack(t, x.grammar(i%7))
	}
	grammarBack(t, api.Grammar{Rules: manyRules(200)})
	grammarBack(t, grammar(rule("a", row(api.PSeq, 1023, call("b"))...), rule("b", call("a"))))
	grammarBack(t, grammar(rule("s", rowOfBytes(65530)...)))
	// A rule that ends with a name stands ahead of the next rule's.
	grammarBack(t, grammar(rule("a", call("b")), rule("b", call("c")), rule("c", op(api.PAny), call("a"), op(api.PSeq)), rule("a", call("a"), op(api.PNot))))
}

// A text of the notation, made along its lines, with blanks, comments and parentheses of all sorts.
func (x *scramble) text(size int) string {
	if x.below(2) == 0 {
		return x.exp(size)
	}
	s := ""
	for range 1 + x.below(3) {
		s += x.gap() + x.oneOf("a", "b", "s", "long_name_9") + x.gap() + "<-" + x.exp(size)
	}
	return s
}

func (x *scramble) gap() string {
	return x.oneOf(" ", " ", " ", "\n", "\t", "\r\n", "  ", " -- note\n", "--'(\n")
}

func (x *scramble) exp(size int) string {
	s := x.seq(size)
	for range x.below(3) {
		s += x.gap() + "/" + x.seq(size-1)
	}
	return s
}

func (x *scramble) seq(size int) string {
	s := x.pre(size)
	for range x.below(3) {
		s += x.pre(size - 1)
	}
	return s
}

func (x *scramble) pre(size int) string {
	s := x.gap()
	for x.below(5) == 0 {
		s += x.oneOf("&", "!") + x.gap()
	}
	s += x.prim(size)
	for x.below(3) == 0 {
		s += x.oneOf("?", "*", "+", "^3", "^+0", "^-50", " -> 'x%1%%'", "->\"\"", " -> 50", "->0", "\n?")
	}
	return s
}

func (x *scramble) prim(size int) string {
	if size > 0 && x.below(3) > 0 {
		open := x.oneOf("(", "((", "{", "{:", "{:k:", "{|", "{~")
		closing := map[string]string{"(": ")", "((": "))", "{": "}", "{:": ":}", "{:k:": ":}", "{|": "|}", "{~": "~}"}[open]
		return open + x.exp(size-1) + x.gap() + closing
	}
	return x.oneOf("'a'", `"\x00b"`, "''", `"'"`, "'\xce\xb1'", "[^a-z]", "[]", "[^]", `[\x00-\xff]`, "%d", "%W", "%u{41}", "%u{3b1-3c9}", "%u{d800-dfff}", "%u{0-10ffff}", ".", "%e", "%f", "{}", "{ }", "a", "b", "nowhere")
}

// 7.3: what is read of any text is told as a text that is read as the same, and that stays as it is.
func TestTextsComeBack(t *testing.T) {
	x := newScramble()
	told := 0
	for i := range 3000 {
		text := x.text(i % 5)
		g, f := notation.Parse(text)
		if f != (api.Fault{}) {
			continue
		}
		told++
		grammarBack(t, g)
		if p, f := notation.Pattern(text); f == (api.Fault{}) {
			thereAndBack(t, p)
		}
	}
	if told < 2500 {
		t.Errorf("%d texts alone were told", told)
	}
	for text, want := range map[string]string{
		"('a''b')*": "('a' 'b')*\n", "''": "%e\n", "%d%f": "[0-9] %f\n", "((((a))))": "a\n", "{:k:s:}": "{:k: s :}\n", "s<-(a)/(b c)-- note": "s <- a / b c\n", `"it's"`: "'it\\'s'\n",
		"%u{3b1-3c9}": `[\xce] [\xb1-\xbf] / [\xcf] [\x80-\x89]` + "\n", "a<-b c<-d": "a <- b\nc <- d\n", "!(!(a))": "!!a\n", "(a/b)/(c/d)": "a / b / (c / d)\n", "(a*)->1": "a* -> 1\n",
	} {
		g, f := notation.Parse(text)
		s, e := show.Grammar(g)
		if f != (api.Fault{}) || e != api.OK || s != want {
			t.Errorf("%s: %s, %v, %v, want %s", text, short(s), f, e, short(want))
		}
	}
}

// 7.1, 7.2: a text that is read may be told longer than it is, and then be too long to be told.
func TestTextsThatGrow(t *testing.T) {
	literal := "'" + times("\xff", 255) + "'"
	for n, want := range map[int]api.Errno{64: api.OK, 65: api.ErrLong, 250: api.ErrLong} {
		p, f := notation.Pattern(times(literal, n))
		if f != (api.Fault{}) {
			t.Fatal(n, f)
		}
		if s, e := show.Pattern(p); e != want || want != api.OK && s != "" {
			t.Errorf("%d literals: %d bytes, %v", n, len(s), e)
		}
		if s, e := show.Grammar(grammar(rule("", p...))); e != want || want != api.OK && s != "" {
			t.Errorf("%d literals: %d bytes, %v", n, len(s), e)
		}
	}
}

// The places of the parentheses of a text, pair by pair.
func pairs(t *testing.T, text string) [][2]int {
	t.Helper()
	l, f := token.Lex(text)
	if f != (api.Fault{}) {
		t.Fatalf("%s: %v", short(text), f)
	}
	var open []int
	var found [][2]int
	for _, x := range l {
		switch x.Kind {
		case api.TOpen:
			open = append(open, x.At)
		case api.TClose:
			found = append(found, [2]int{open[len(open)-1], x.At})
			open = open[:len(open)-1]
		}
	}
	return found
}

// without is the text with something else in the place of a pair.
func without(text string, pair [2]int, instead string) string {
	return text[:pair[0]] + instead + text[pair[0]+1:pair[1]] + instead + text[pair[1]+1:]
}

// 7.4: without any one pair of parentheses it is read as another pattern, or not at all.
func TestNoParenthesisTooMuch(t *testing.T) {
	removed := 0
	patterns := somePatterns()
	for kind := api.PEmpty; kind <= api.PPick; kind++ {
		for _, middle := range aboveEach(smallOf(kind)) {
			patterns = append(patterns, aboveEach(middle)...)
		}
	}
	for _, p := range patterns {
		s, _ := show.Pattern(p)
		for _, pair := range pairs(t, s) {
			removed++
			for _, instead := range []string{"", " "} {
				if q, f := notation.Pattern(without(s, pair, instead)); f == (api.Fault{}) && slices.Equal(p, q) {
					t.Errorf("%s has parentheses at %d that say nothing", short(s), pair[0])
				}
			}
		}
	}
	if removed < 4000 {
		t.Errorf("%d pairs alone", removed)
	}
}

// fullText is the text of a pattern with each part in parentheses.
func fullText(p api.Pattern) (string, api.Pattern) {
	n, rest := p[len(p)-1], p[:len(p)-1]
	pieces := strings.Split(table[n.Op].text, "@")
	texts := make([]string, len(pieces)-1)
	for i := len(texts) - 1; i >= 0; i-- {
		texts[i], rest = fullText(rest)
	}
	s := filled(pieces[0], n)
	for i, x := range texts {
		s += "(" + x + ")" + filled(pieces[i+1][1:], n)
	}
	return s, rest
}

// 7.4: from a text with all parentheses those that say nothing are taken away, one by one; what stays is what is told.
func TestFewestParentheses(t *testing.T) {
	patterns := somePatterns()
	for kind := api.PEmpty; kind <= api.PPick; kind++ {
		for _, middle := range aboveEach(smallOf(kind)) {
			patterns = append(patterns, aboveEach(middle)[kind%3:][0])
		}
	}
	for _, p := range patterns {
		if len(p) > 40 {
			continue
		}
		text, _ := fullText(p)
		if q, f := notation.Pattern(text); f != (api.Fault{}) || !slices.Equal(p, q) {
			t.Fatalf("%s: %v", short(text), f)
		}
	again:
		for _, pair := range pairs(t, text) {
			fewer := without(text, pair, "")
			if q, f := notation.Pattern(fewer); f == (api.Fault{}) && slices.Equal(p, q) {
				text = fewer
				goto again
			}
		}
		if s, e := show.Pattern(p); s != text || e != api.OK {
			t.Errorf("Pattern(%v): %s, %v, want %s", brief(p), short(s), e, short(text))
		}
	}
}

// spare is a pattern with something else behind its length.
func spare(p api.Pattern) api.Pattern {
	whole := append(slices.Clone(p), slices.Repeat(list(op(-1), lit("spare")), 20)...)
	return whole[:len(p)]
}

// R4: what is handed in stays as it is, and what lies behind a list's length is neither read nor written.
func TestWhatIsHandedInStays(t *testing.T) {
	for i, p := range somePatterns() {
		if i%5 == 0 {
			p = append(p, op(-1))
		}
		given := spare(p)
		behind := slices.Clone(given[:cap(given)])
		sameAsModel(t, given)
		rules := []api.Rule{{Name: "a", Body: given}, {Name: "b", Body: given}, {Name: "1"}}
		grammarAsModel(t, api.Grammar{Rules: rules[:2]})
		if !slices.Equal(given[:cap(given)], behind) || rules[0].Name != "a" || rules[1].Name != "b" || rules[2].Name != "1" || rules[2].Body != nil {
			t.Errorf("%v was changed", brief(p))
		}
	}
}

func lies(s, text string) bool {
	from, at := uintptr(unsafe.Pointer(unsafe.StringData(text))), uintptr(unsafe.Pointer(unsafe.StringData(s)))
	return at >= from && at < from+uintptr(len(text))
}

// R4: an answer lies in none of what was handed in, even if it is the same text.
func TestAnswersAreNewMemory(t *testing.T) {
	name := strings.Clone("a_name_of_a_rule")
	p := list(call(name))
	s, _ := show.Pattern(p)
	again, _ := show.Pattern(p)
	if s != name || lies(s, name) || lies(again, s) {
		t.Errorf("%s lies in the pattern, or in another answer", s)
	}
	g, _ := show.Grammar(grammar(rule("", p...)))
	tree, _ := show.Tree(p)
	if g != name+"\n" || lies(g, name) || tree != "call "+name+"\n" || lies(tree, name) {
		t.Error(g, tree)
	}
}

// R5, R7: a call tells nothing to the next one, refused or not.
func TestCallsTellEachOtherNothing(t *testing.T) {
	right := list(lit("a"), op(api.PStar))
	for _, p := range []api.Pattern{nil, list(op(0)), tower(60, op(api.PSub), lit("a")), row(api.PSeq, 70, lit(times("\xff", 255))), right} {
		sameAsModel(t, p)
		grammarAsModel(t, grammar(rule("a", p...), rule("1", p...)))
		shown(t, "'a'*", right...)
		shownTree(t, "star\n  text 'a'\n", right...)
		shownGrammar(t, "s <- 'a'*\n", rule("s", right...))
		sameAsModel(t, p)
	}
}

// P1: whatever is handed in, each call ends, and tells what the chapter says.
func TestCallsEnd(t *testing.T) {
	x := newScramble()
	extremes := []int{math.MinInt, math.MinInt32, -1, 0, 1, 50, 51, 1 << 31, math.MaxInt}
	for i := range 3000 {
		var p api.Pattern
		for range x.below(12) {
			n := x.node(1 + x.below(23))
			switch x.below(12) {
			case 0:
				n.Op = extremes[x.below(len(extremes))]
			case 1:
				n.N = extremes[x.below(len(extremes))]
			case 2:
				n.Text = x.bytes(300)
			}
			p = append(p, n)
		}
		sameAsModel(t, p)
		grammarAsModel(t, grammar(rule(x.bytes(i%4), p...), rule("a", p...)))
	}
	huge := times("x", 1<<22)
	refused(t, api.ErrField, lit(huge))
	refused(t, api.ErrField, call(huge))
	refused(t, api.ErrLong, make(api.Pattern, 1<<18)...)
	refusedGrammar(t, api.ErrText, rule(huge, lit(huge)))
	refusedGrammar(t, api.ErrLong, make([]api.Rule, 1<<18)...)
	for _, n := range []int{100, 1023} {
		tooLong(t, row(api.PChoice, n, lit(times("\x00", 255))))
		if s, e := show.Tree(row(api.PChoice, n, lit(times("\x00", 255)))); s != "" || e != api.ErrLong {
			t.Errorf("a row of %d: %s, %v", n, short(s), e)
		}
	}
	sameAsModel(t, tower(58, template(times("\x00", 255)), row(api.PSeq, 100, op(api.PAny))...))
}
