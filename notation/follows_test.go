package notation_test

import (
	"slices"
	"strings"
	"testing"
	"unsafe"

	"harrow/api"
	"harrow/notation"
	"harrow/token"
	"harrow/tree"
)

// Texts that are read without a fault, of all sorts.
func readable() []string {
	texts := []string{".", "a", "''", "{}", "s <- 'a' s / %e t <- .", "{:k: [0-9]+ :} -> '%1'", "!'a'* &.", "a<-b", "{| x |} -> 2 / {~ .^3 ~}^-4", "((.))", "{{}}", "a <- ((b)) c <- {:d:}e:} f:}"}
	x := newScramble()
	for i := range 800 {
		texts = append(texts, x.text(i%5))
	}
	return slices.DeleteFunc(texts, func(text string) bool {
		_, f := notation.Parse(text)
		return f != api.Fault{}
	})
}

func lexed(t *testing.T, text string) []api.Token {
	t.Helper()
	l, f := token.Lex(text)
	if f != (api.Fault{}) {
		t.Fatalf("Lex(%s): %v", short(text), f)
	}
	return l
}

// N3: what is read has right patterns, whatever was read.
func TestPatternsAreRight(t *testing.T) {
	texts := readable()
	if len(texts) < 600 {
		t.Errorf("%d texts alone are read", len(texts))
	}
	for _, text := range texts {
		g, f := notation.Parse(text)
		if f != (api.Fault{}) || len(g.Rules) == 0 {
			t.Errorf("Parse(%s): %v, %v", short(text), g, f)
		}
		for _, r := range g.Rules {
			if at, e := tree.Check(r.Body); at != 0 || e != api.OK {
				t.Errorf("Parse(%s): rule %q: %v at %d", short(text), r.Name, e, at)
			}
		}
	}
}

// sameRead holds what both calls say of a text against what they say of another one.
func sameRead(t *testing.T, text, other string) {
	t.Helper()
	g, _ := notation.Parse(text)
	if h, f := notation.Parse(other); f != (api.Fault{}) || !sameGrammar(g, h) {
		t.Errorf("Parse(%s): %v, %v, want %v as of %s", short(other), h, f, g, short(text))
	}
	p, f := notation.Pattern(text)
	if q, of := notation.Pattern(other); of.Code != f.Code || !slices.Equal(p, q) {
		t.Errorf("Pattern(%s): %v, %v, want %v as of %s", short(other), q, of, p, short(text))
	}
}

// N3: parentheses around each exp of a text change nothing.
func TestParenthesesChangeNothing(t *testing.T) {
	for _, text := range readable() {
		l := lexed(t, text)
		for _, n := range []int{1, 2, 5} {
			sameRead(t, text, wrappedExps(text, l, times("(", n), times(")", n)))
		}
		if words := wordsOf(l); words[0] != "HEAD" {
			sameRead(t, text, times("(", 200)+text+"\n"+times(")", 200))
		}
	}
}

// The text with something laid ahead of and behind each exp that a rule, or a sign that opens, has.
func wrappedExps(text string, l []api.Token, ahead, behind string) string {
	words := wordsOf(l)
	var out []string
	if words[0] != "HEAD" {
		out = append(out, ahead)
	}
	for i, x := range l {
		isPlace := words[i] == "}" && words[i-1] == "{"
		if among(words[i], closers) && !isPlace || words[i] == "HEAD" && i > 0 {
			out = append(out, behind)
		}
		out = append(out, text[x.At:x.End])
		isPlace = words[i] == "{" && words[i+1] == "}"
		if among(words[i], openers) && !isPlace || words[i] == "<-" {
			out = append(out, ahead)
		}
	}
	return strings.Join(append(out, behind), " ")
}

// N3: blanks and comments between tokens change nothing.
func TestBlanksAndCommentsChangeNothing(t *testing.T) {
	gaps := []string{" ", "\t", "\n", "\r", "\r\n \t", "--\n", "-- 'a\n", " ----\n--$ <-\n ", " --\x00\xff)\n"}
	for i, text := range readable() {
		l := lexed(t, text)
		plain, e := token.Text(l)
		if e != api.OK {
			t.Fatal(text, e)
		}
		sameRead(t, text, plain)
		wide := gaps[i%len(gaps)]
		for j, x := range l {
			wide += text[x.At:x.End] + gaps[(i+j*j)%len(gaps)]
		}
		sameRead(t, text, wide+"-- end")
		if len(l) < 60 {
			sameRead(t, text, tight(text, l))
		}
	}
}

// The text without a blank wherever its tokens stay what they are.
func tight(text string, l []api.Token) string {
	s := ""
	for i, x := range l {
		with := s + text[x.At:x.End]
		if next, f := token.Lex(with); f != (api.Fault{}) || !slices.Equal(wordsOf(next), wordsOf(l[:i+1])) {
			with = s + " " + text[x.At:x.End]
		}
		s = with
	}
	return s
}

func lies(s, text string) bool {
	if s == "" || text == "" {
		return false
	}
	from, at := uintptr(unsafe.Pointer(unsafe.StringData(text))), uintptr(unsafe.Pointer(unsafe.StringData(s)))
	return at >= from && at < from+uintptr(len(text))
}

func spoil(p api.Pattern) {
	p = p[:cap(p)]
	for i := range p {
		p[i] = api.Node{Op: -1, N: -1, Text: "spoilt"}
	}
}

// R4: an answer shares nothing with the text, with another answer, or among its own lists, spare room too.
func TestAnswersAreNewMemory(t *testing.T) {
	const text = "first <- {:group: 'literal' %d :} -> 'template' / second* second <- %u{3b1-3c9} first 'literal' third <- . fourth <- [a-z] 'x'"
	asked := strings.Clone(text)
	want, wf := wantedParse(text)
	g, f := notation.Parse(asked)
	if f != wf || !sameGrammar(g, want) {
		t.Fatal(g, f)
	}
	for _, r := range g.Rules {
		names := []string{r.Name}
		for _, n := range r.Body {
			names = append(names, n.Text)
		}
		for _, s := range names {
			if lies(s, asked) {
				t.Errorf("%q lies in the text", s)
			}
		}
	}
	again, _ := notation.Parse(asked)
	for i, r := range g.Rules {
		spoil(r.Body)
		if !slices.EqualFunc(g.Rules[i+1:], want.Rules[i+1:], sameRule) {
			t.Errorf("rule %d shares memory with another one", i)
		}
	}
	rules := g.Rules[:cap(g.Rules)]
	for i := range rules {
		rules[i] = api.Rule{Name: "spoilt"}
	}
	third, _ := notation.Parse(asked)
	if asked != text || !sameGrammar(again, want) || !sameGrammar(third, want) {
		t.Error("what was done to an answer is seen elsewhere")
	}
}

// R4: likewise of patterns.
func TestPatternsAreNewMemory(t *testing.T) {
	const text = "{:group: 'literal' %d :} -> 'template' / %u{3b1-3c9} second*"
	asked := strings.Clone(text)
	g, _ := wantedParse(text)
	want := g.Rules[0].Body
	p, f := notation.Pattern(asked)
	if f != (api.Fault{}) || !slices.Equal(p, want) {
		t.Fatal(p, f)
	}
	for _, n := range p {
		if lies(n.Text, asked) {
			t.Errorf("%q lies in the text", n.Text)
		}
	}
	again, _ := notation.Pattern(asked)
	parsed, _ := notation.Parse(asked)
	spoil(p)
	third, _ := notation.Pattern(asked)
	if asked != text || !slices.Equal(again, want) || !slices.Equal(third, want) || !slices.Equal(parsed.Rules[0].Body, want) {
		t.Error("what was done to an answer is seen elsewhere")
	}
}

// R5, R7: a call that was refused tells nothing to the next one.
func TestCallsTellEachOtherNothing(t *testing.T) {
	for _, wrong := range []string{"(((", times("(", 300), "'a' -> '%'", "$", "", "a <- b <- c", many(201)} {
		refusedTwice := func() {
			g, f := notation.Parse(wrong)
			if h, again := notation.Parse(wrong); f == (api.Fault{}) || f != again || g.Rules != nil || h.Rules != nil {
				t.Errorf("Parse(%s): %v, %v", short(wrong), f, again)
			}
		}
		refusedTwice()
		read(t, wrapped(240, ". 'a'"), op(api.PAny), lit("a"), op(api.PSeq))
		refusedTwice()
	}
}

// P1: whatever is handed in, both calls end, and tell what the chapter says.
func TestCallsEnd(t *testing.T) {
	x := newScramble()
	const telling = "'\"[]%u{}-^+:|~09af<> /\n()!&.*?ab"
	for range 3000 {
		b := make([]byte, x.below(40))
		for i := range b {
			b[i] = byte(x.below(256))
			if x.below(8) > 0 {
				b[i] = telling[x.below(len(telling))]
			}
		}
		sameAsModel(t, string(b))
	}
}

// P1: the longest texts of one thing again and again.
func TestLongTextsEnd(t *testing.T) {
	most := func(s string) string { return times(s, api.MaxText/len(s)) }
	refused(t, most("("), 240, api.ErrDeep)
	refused(t, most("!"), 240, api.ErrDeep)
	refused(t, most("{~"), 480, api.ErrDeep)
	refused(t, most("!("), 240, api.ErrDeep)
	refused(t, most("."), 0, api.ErrLong)
	refused(t, most("{}"), 0, api.ErrLong)
	refused(t, "."+times("/.", 32767), 0, api.ErrLong)
	refused(t, most("!."), 0, api.ErrLong)
	refused(t, "."+times("*", 65535), 0, api.ErrLong)
	refused(t, "."+most("->0"), 0, api.ErrLong)
	refused(t, most("%u{1-10fffe}"), 0, api.ErrLong)
	refused(t, most("a<-. "), 1000, api.ErrLong)
	refused(t, most("a<-"), 3, api.ErrSyntax)
	refused(t, most("a "), 0, api.ErrLong)
	refused(t, most("/"), 0, api.ErrSyntax)
	refused(t, most("'"), 0, api.ErrLong)
}
