package notation_test

import (
	"slices"
	"strings"
	"testing"

	"harrow/api"
	"harrow/charset"
	"harrow/notation"
	"harrow/runes"
)

func op(kind int) api.Node                     { return api.Node{Op: kind} }
func number(kind, n int) api.Node              { return api.Node{Op: kind, N: n} }
func lit(s string) api.Node                    { return api.Node{Op: api.PText, Text: s} }
func call(s string) api.Node                   { return api.Node{Op: api.PCall, Text: s} }
func group(s string) api.Node                  { return api.Node{Op: api.PGroup, Text: s} }
func template(s string) api.Node               { return api.Node{Op: api.PString, Text: s} }
func rule(s string, body ...api.Node) api.Rule { return api.Rule{Name: s, Body: body} }

func class(t *testing.T, text string) api.Node {
	t.Helper()
	set, f := charset.Parse(text)
	if f != (api.Fault{}) {
		t.Fatal(text, f)
	}
	return api.Node{Op: api.PSet, Set: set}
}

// read holds a text without rules against its pattern, by both calls.
func read(t *testing.T, text string, want ...api.Node) {
	t.Helper()
	p, f := notation.Pattern(text)
	if f != (api.Fault{}) || !slices.Equal(p, want) {
		t.Errorf("Pattern(%s): %v, %v, want %v", short(text), p, f, want)
	}
	parsed(t, text, rule("", want...))
}

func parsed(t *testing.T, text string, want ...api.Rule) {
	t.Helper()
	g, f := notation.Parse(text)
	if f != (api.Fault{}) || !slices.EqualFunc(g.Rules, want, sameRule) {
		t.Errorf("Parse(%s): %v, %v, want %v", short(text), g, f, want)
	}
}

// refused holds a text against its fault, by Parse, and by Pattern if it has no rules.
func refused(t *testing.T, text string, at int, code api.Errno) {
	t.Helper()
	want := api.Fault{At: at, Code: code}
	if g, f := notation.Parse(text); f != want || len(g.Rules) != 0 {
		t.Errorf("Parse(%s): %v, %v, want %v", short(text), g, f, want)
	}
	if hasRules(text) {
		return
	}
	if p, f := notation.Pattern(text); f != want || len(p) != 0 {
		t.Errorf("Pattern(%s): %v, %v, want %v", short(text), p, f, want)
	}
}

// Of the texts here, those with '<-' as the second token.
func hasRules(text string) bool {
	_, rest, ok := strings.Cut(text, "<-")
	head := strings.TrimSpace(strings.TrimSuffix(text, "<-"+rest))
	return ok && head != "" && !strings.ContainsAny(head, " /&!?*+().{}'\"[]%^|~:-<>\n$")
}

// N1, N2: the chapter's examples.
func TestExamples(t *testing.T) {
	read(t, "'a' 'b' / 'c'*", lit("a"), lit("b"), op(api.PSeq), lit("c"), op(api.PStar), op(api.PChoice))
	parsed(t, "s <- 'a' s / %e t <- .",
		rule("s", lit("a"), call("s"), op(api.PSeq), op(api.PEmpty), op(api.PChoice)),
		rule("t", op(api.PAny)))
	read(t, "{:k: [0-9]+ :} -> '%1'", class(t, "[0-9]"), op(api.PPlus), group("k"), template("%1"))
	refused(t, "'a' /", 5, api.ErrSyntax)
	refused(t, "('a'", 4, api.ErrSyntax)
	refused(t, "'a' -> 'x%'", 7, api.ErrTemplate)
	refused(t, "'a' -> 51", 7, api.ErrRange)
	refused(t, "a <- 'b' / c <- 'd'", 11, api.ErrSyntax)
	refused(t, "", 0, api.ErrSyntax)
	read(t, "!'a'*", lit("a"), op(api.PStar), op(api.PNot))
}

// N1: each prim, alone, with all fields of its node.
func TestPrims(t *testing.T) {
	read(t, "'ab'", lit("ab"))
	read(t, `"it's\n\x00\xff"`, lit("it's\n\x00\xff"))
	read(t, "''", op(api.PEmpty))
	read(t, `""`, op(api.PEmpty))
	read(t, "[a-z_]", class(t, "[a-z_]"))
	read(t, "[]", op(api.PSet))
	read(t, "[^]", class(t, "[^]"))
	read(t, "%d", class(t, "[0-9]"))
	read(t, "%D", class(t, "[^0-9]"))
	read(t, ".", op(api.PAny))
	read(t, "%e", op(api.PEmpty))
	read(t, "%f", op(api.PFail))
	read(t, "name_9", call("name_9"))
	read(t, "('a')", lit("a"))
	read(t, "{}", op(api.PPlace))
	read(t, "{ -- here\n }", op(api.PPlace))
	read(t, "{'a'}", lit("a"), op(api.PSub))
	read(t, "{:'a':}", lit("a"), group(""))
	read(t, "{: a :}", call("a"), group(""))
	read(t, "{:k:'a':}", lit("a"), group("k"))
	read(t, "{:k: k :}", call("k"), group("k"))
	read(t, "{|'a'|}", lit("a"), op(api.PList))
	read(t, "{~'a'~}", lit("a"), op(api.PSubst))
}

// N1: code points, of one number and of two, are layer 3's pattern, and go on as one thing.
func TestCodePoints(t *testing.T) {
	for text, ends := range map[string][2]int{
		"%u{41}": {0x41, 0x41}, "%u{3b1}": {0x3b1, 0x3b1}, "%u{20ac-20ac}": {0x20ac, 0x20ac}, "%u{3b1-3c9}": {0x3b1, 0x3c9},
		"%u{0-10ffff}": {0, 0x10ffff}, "%u{1-10fffe}": {1, 0x10fffe}, "%u{d800-dfff}": {0xd800, 0xdfff}, "%u{d7ff-e000}": {0xd7ff, 0xe000}, "%u{000000}": {0, 0},
	} {
		p, e := runes.Pattern(ends[0], ends[1])
		if e != api.OK {
			t.Fatal(text, e)
		}
		read(t, text, p...)
		read(t, text+"*", append(slices.Clone(p), op(api.PStar))...)
		read(t, "!"+text, append(slices.Clone(p), op(api.PNot))...)
		read(t, text+" / 'a'", append(slices.Clone(p), lit("a"), op(api.PChoice))...)
		read(t, "'a' "+text, append(append(api.Pattern{lit("a")}, p...), op(api.PSeq))...)
	}
	read(t, "%u{d800-dfff}", op(api.PFail))
	read(t, "%u{41}", api.Node{Op: api.PSet, Set: api.Set{0, 2}})
}

// N1: each suffix, alone, with all fields of its node.
func TestSuffixes(t *testing.T) {
	a := lit("a")
	read(t, "'a'?", a, op(api.POpt))
	read(t, "'a'*", a, op(api.PStar))
	read(t, "'a'+", a, op(api.PPlus))
	for text, n := range map[string]int{"0": 0, "1": 1, "7": 7, "50": 50} {
		read(t, "'a'^"+text, a, number(api.PTimes, n))
		read(t, "'a'^+"+text, a, number(api.PLeast, n))
		read(t, "'a'^-"+text, a, number(api.PMost, n))
		read(t, "'a' -> "+text, a, number(api.PPick, n))
	}
	for _, s := range []string{"", "x", "%0", "%9%%", "a %1 b", "%%%0", "\n\xff", strings.Repeat("y", 255), strings.Repeat("%%", 127)} {
		read(t, "'a' -> "+quoted(s), a, template(s))
	}
	read(t, "'a'->'x'->2", a, template("x"), number(api.PPick, 2))
}

func quoted(s string) string {
	return "'" + strings.NewReplacer("\n", `\n`, "\xff", `\xff`).Replace(s) + "'"
}

// N1: suffixes one behind the other hold what is ahead of them, and more strongly than '&' and '!'.
func TestSuffixesOneBehindTheOther(t *testing.T) {
	a := lit("a")
	read(t, "'a'?*+", a, op(api.POpt), op(api.PStar), op(api.PPlus))
	read(t, "'a'+ * ?", a, op(api.PPlus), op(api.PStar), op(api.POpt))
	read(t, "'a'^2^+3^-4", a, number(api.PTimes, 2), number(api.PLeast, 3), number(api.PMost, 4))
	read(t, "'a'* -> '%0' ? -> 3 ^2", a, op(api.PStar), template("%0"), op(api.POpt), number(api.PPick, 3), number(api.PTimes, 2))
	read(t, "&'a'+", a, op(api.PPlus), op(api.PAnd))
	read(t, "!'a' -> 'x'", a, template("x"), op(api.PNot))
	read(t, "!&!'a'^2?", a, number(api.PTimes, 2), op(api.POpt), op(api.PNot), op(api.PAnd), op(api.PNot))
	read(t, "(!'a')*", a, op(api.PNot), op(api.PStar))
	read(t, "!('a' 'b')*", a, lit("b"), op(api.PSeq), op(api.PStar), op(api.PNot))
	read(t, "!'a' 'b'", a, op(api.PNot), lit("b"), op(api.PSeq))
	read(t, "'a' !'b'*", a, lit("b"), op(api.PStar), op(api.PNot), op(api.PSeq))
	read(t, "&'a' / 'b'", a, op(api.PAnd), lit("b"), op(api.PChoice))
	read(t, "{'a'}*", a, op(api.PSub), op(api.PStar))
	read(t, "{}?", op(api.PPlace), op(api.POpt))
	read(t, "a*", call("a"), op(api.PStar))
	read(t, "''*", op(api.PEmpty), op(api.PStar))
}

// N1: several are put together from the left; a seq holds more strongly than '/'.
func TestPutTogetherFromTheLeft(t *testing.T) {
	a, b, c, d := lit("a"), lit("b"), lit("c"), lit("d")
	seq, choice := op(api.PSeq), op(api.PChoice)
	read(t, "'a' 'b'", a, b, seq)
	read(t, "'a''b'", a, b, seq)
	read(t, "'a' 'b' 'c'", a, b, seq, c, seq)
	read(t, "'a' 'b' 'c' 'd'", a, b, seq, c, seq, d, seq)
	read(t, "'a' / 'b'", a, b, choice)
	read(t, "'a' / 'b' / 'c' / 'd'", a, b, choice, c, choice, d, choice)
	read(t, "'a' 'b' / 'c' 'd'", a, b, seq, c, d, seq, choice)
	read(t, "'a' / 'b' 'c' / 'd'", a, b, c, seq, choice, d, choice)
	read(t, "'a' ('b' 'c')", a, b, c, seq, seq)
	read(t, "'a' / ('b' / 'c')", a, b, c, choice, choice)
	read(t, "'a' ('b' / 'c') 'd'", a, b, c, choice, seq, d, seq)
	read(t, "('a' 'b') 'c'", a, b, seq, c, seq)
	read(t, "{'a' / 'b'} 'c'", a, b, choice, op(api.PSub), c, seq)
	read(t, "{:'a' 'b':}{|'c' / 'd'|}", a, b, seq, group(""), c, d, choice, op(api.PList), seq)
	read(t, "a b/c", call("a"), call("b"), seq, call("c"), choice)
}

// N1: rules, in their order; whether their names are there, or stand twice, is no matter.
func TestRules(t *testing.T) {
	parsed(t, "a <- 'b'", rule("a", lit("b")))
	parsed(t, "a<-b", rule("a", call("b")))
	parsed(t, "a <- a", rule("a", call("a")))
	parsed(t, " a\n<-\n%e ", rule("a", op(api.PEmpty)))
	parsed(t, "a <- b c <- d", rule("a", call("b")), rule("c", call("d")))
	parsed(t, "a <- b c d <- e f", rule("a", call("b"), call("c"), op(api.PSeq)), rule("d", call("e"), call("f"), op(api.PSeq)))
	parsed(t, "z <- . a <- 'b'* / c m <- {}", rule("z", op(api.PAny)), rule("a", lit("b"), op(api.PStar), call("c"), op(api.PChoice)), rule("m", op(api.PPlace)))
	parsed(t, "a <- 'x' a <- 'y' a <- a", rule("a", lit("x")), rule("a", lit("y")), rule("a", call("a")))
	parsed(t, "a <- 'x' -> 1 b <- 'y' -> 'z' c <- 'w'^2", rule("a", lit("x"), number(api.PPick, 1)), rule("b", lit("y"), template("z")), rule("c", lit("w"), number(api.PTimes, 2)))
	long := strings.Repeat("n", 32)
	parsed(t, long+" <- "+long, rule(long, call(long)))
	read(t, "a", call("a"))
	read(t, "a b", call("a"), call("b"), op(api.PSeq))
}

// N1: whatever is within a rule ends with it: none of it goes on in the next one.
func TestRulesStandAlone(t *testing.T) {
	bodies := []string{"'a' 'b' / 'c'*", "!{ {:k: [0-9]+ :} -> '%1' }", "a b", "%u{3b1-3c9}", "{}", "''", "&&.", "((((.))))"}
	for _, one := range bodies {
		for _, two := range bodies {
			p, _ := notation.Pattern(one)
			q, _ := notation.Pattern(two)
			parsed(t, "x <- "+one+" y <- "+two, rule("x", p...), rule("y", q...))
		}
	}
}

// N1, N2: all short texts of tokens of all kinds, alone and in places of all sorts.
func TestShortTexts(t *testing.T) {
	for _, text := range textsOf(allTokens(), 3) {
		sameAsModel(t, text)
	}
	for _, ahead := range []string{"a <-", "'x'", "'x' /", "'x' ->", "!", "(", "{", "{:k:", "{|", "{~", "a <- ( 'x'", "a <- 'x' b <-", "{ 'x'", "'x'*"} {
		for _, behind := range []string{"", ")", "}", ":}", "|}", "~}", "'x'", "<-", "<- 'x'"} {
			for _, text := range textsOf(allTokens(), 1) {
				sameAsModel(t, ahead+text+" "+behind)
			}
		}
	}
}

// One token of each kind, and more where a kind is read in more than one way.
func allTokens() []string {
	return []string{"a", "'x'", "''", "'%'", "[a]", "2", "51", "%u{41}", "<-", "/", "&", "!", "?", "*", "+", "^2", "^+2", "^-2", "(", ")", ".", "{", "}", "{:", "{:k:", ":}", "{|", "|}", "{~", "~}", "->", "%d", "%e", "%f"}
}

// All lists of at most n of the tokens, with blanks between.
func textsOf(tokens []string, n int) []string {
	all := []string{""}
	last := all
	for range n {
		var longer []string
		for _, text := range last {
			for _, x := range tokens {
				longer = append(longer, text+" "+x)
			}
		}
		all = append(all, longer...)
		last = longer
	}
	return all
}

// N1, N2: longer texts of few tokens.
func TestLongerTexts(t *testing.T) {
	for _, text := range textsOf([]string{"a", "<-", "'x'", "/", "!", "*", "(", ")"}, 5) {
		sameAsModel(t, text)
	}
	for _, text := range textsOf([]string{".", "->", "'x'", "{", "}", "{:", ":}"}, 5) {
		sameAsModel(t, text)
	}
}

// N1, N2: texts made along the notation's lines, and the same ones spoilt in one place or two.
func TestScrambledTexts(t *testing.T) {
	x := newScramble()
	tokens := append(allTokens(), "b <-", "$", "'", "--\n", "007", "%u{z}")
	for i := range 1500 {
		text := x.text(i % 5)
		if _, f := notation.Parse(text); f.Code == api.ErrSyntax {
			t.Errorf("Parse(%s): %v", short(text), f)
		}
		sameAsModel(t, text)
		for range 1 + x.below(2) {
			at := x.below(len(text) + 1)
			end := min(len(text), at+x.below(4))
			text = text[:at] + x.oneOf("", " "+tokens[x.below(len(tokens))]+" ") + text[end:]
		}
		sameAsModel(t, text)
	}
}
