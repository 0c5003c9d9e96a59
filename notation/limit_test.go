package notation_test

import (
	"slices"
	"strconv"
	"strings"
	"testing"

	"harrow/api"
	"harrow/notation"
)

func times(s string, n int) string {
	return strings.Repeat(s, n)
}

// So many parentheses around something.
func wrapped(n int, s string) string {
	return times("(", n) + s + times(")", n)
}

// N1: a text of MaxText bytes is read; one of more is refused ahead of all else.
func TestLongestText(t *testing.T) {
	read(t, times(" ", 65535)+".", op(api.PAny))
	read(t, ". --"+times("x", 65532), op(api.PAny))
	parsed(t, "a <- ."+times("\n", 65530), rule("a", op(api.PAny)))
	refused(t, times(" ", 65536)+".", 0, api.ErrLong)
	refused(t, ". --"+times("x", 65533), 0, api.ErrLong)
	refused(t, "a <- ."+times("\n", 65531), 0, api.ErrLong)
	refused(t, times(" ", 65537), 0, api.ErrLong)
	refused(t, ")"+times(" ", 65536), 0, api.ErrLong)
	refused(t, "$"+times(" ", 65536), 0, api.ErrLong)
	refused(t, " "+times("(", 65536), 0, api.ErrLong)
	refused(t, times(" ", 65536), 65536, api.ErrSyntax)
	refused(t, times(" ", 65535)+")", 65535, api.ErrSyntax)
}

// N1: MaxRules rules are read; of more the name of the one that is one too many is told.
func TestMostRules(t *testing.T) {
	text := ""
	var want []api.Rule
	for i := range 200 {
		name := "r" + strconv.Itoa(i)
		text += name + " <- ." + times("*", i%9) + "\n"
		want = append(want, rule(name, append(api.Pattern{op(api.PAny)}, slices.Repeat(api.Pattern{op(api.PStar)}, i%9)...)...))
	}
	parsed(t, text, want...)
	refused(t, text+"x <- .", len(text), api.ErrLong)
	refused(t, text+"-- one more\n\tx <- . y <- .", len(text)+13, api.ErrLong)
	refused(t, many(201), 1000, api.ErrLong)
	refused(t, many(5000), 1000, api.ErrLong)

	// All tokens are looked at ahead of the rules' number, and this ahead of their sizes.
	refused(t, many(201)+")", 1005, api.ErrSyntax)
	refused(t, many(201)+"b <- . -> 51", 1015, api.ErrRange)
	refused(t, many(201)+"b <-", 1009, api.ErrSyntax)
	refused(t, "b <- "+tower("{", "}", 60)+" "+many(200), 127+199*5, api.ErrLong)
	refused(t, "b <- "+times(".", 2000)+" "+many(200), 2006+199*5, api.ErrLong)
	refused(t, "b <- "+tower("{", "}", 60)+" "+many(199), 0, api.ErrDeep)
}

// A byte within so many signs of one kind.
func tower(open, closing string, n int) string {
	return times(open, n) + "." + times(closing, n)
}

// The signs that open, with what closes them, and the nodes that they make.
var openings = []struct {
	open, closing string
	node          api.Pattern
}{
	{"(", ")", nil},
	{"{", "}", api.Pattern{{Op: api.PSub}}},
	{"{:", ":}", api.Pattern{{Op: api.PGroup}}},
	{"{:k:", ":}", api.Pattern{{Op: api.PGroup, Text: "k"}}},
	{"{|", "|}", api.Pattern{{Op: api.PList}}},
	{"{~", "~}", api.Pattern{{Op: api.PSubst}}},
	{"&", "", api.Pattern{{Op: api.PAnd}}},
	{"!", "", api.Pattern{{Op: api.PNot}}},
}

// N1: a sign that opens may have 239 open around it, and not 240; each kind counts.
func TestDeepestSigns(t *testing.T) {
	read(t, wrapped(240, "."), op(api.PAny))
	read(t, wrapped(240, "'a'*"), lit("a"), op(api.PStar))
	for _, o := range openings {
		one := tower(o.open, o.closing, 1)
		want := append(api.Pattern{op(api.PAny)}, o.node...)
		read(t, wrapped(239, one), want...)
		refused(t, wrapped(240, one), 240, api.ErrDeep)
		refused(t, wrapped(241, one), 240, api.ErrDeep)
		refused(t, times("(", 240)+o.open, 240, api.ErrDeep)
		refused(t, "a <- "+wrapped(240, one), 245, api.ErrDeep)
		refused(t, "a <- . b <- "+wrapped(240, one), 252, api.ErrDeep)
		// It counts wherever it stands among others.
		size := len(o.open)
		read(t, o.open+wrapped(239, ".")+o.closing, want...)
		refused(t, o.open+wrapped(239, "(.)")+o.closing, size+239, api.ErrDeep)
		refused(t, times("(", 120)+o.open+times("(", 120), 120+size+119, api.ErrDeep)
	}
}

// N1: towers of one kind have too many signs from 241 on, at the sign; what they make is too high from 60 on, at the first token.
func TestTowersOfSigns(t *testing.T) {
	for _, o := range openings {
		refused(t, " "+tower(o.open, o.closing, 241), 1+240*len(o.open), api.ErrDeep)
		refused(t, " "+tower(o.open, o.closing, 400), 1+240*len(o.open), api.ErrDeep)
		if o.node == nil {
			continue
		}
		read(t, tower(o.open, o.closing, 59), append(api.Pattern{op(api.PAny)}, slices.Repeat(o.node, 59)...)...)
		refused(t, " "+tower(o.open, o.closing, 60), 1, api.ErrDeep)
		refused(t, " "+tower(o.open, o.closing, 240), 1, api.ErrDeep)
	}
}

// N1: a sign is open up to what closes it, '&' and '!' up to the end of their pre, and no longer.
func TestSignsAreOpenNoLonger(t *testing.T) {
	for _, o := range openings {
		for _, next := range openings {
			refused(t, times("(", 239)+o.open+next.open, 239+len(o.open), api.ErrDeep)
			for _, between := range []string{"", "*", " -> 'x'", " -> 2 ^3", " / ", "'a'"} {
				text := wrapped(239, tower(o.open, o.closing, 1)+between+" "+tower(next.open, next.closing, 1))
				if _, f := notation.Pattern(text); f != (api.Fault{}) {
					t.Errorf("Pattern(%s): %v", short(text), f)
				}
			}
		}
	}
	read(t, wrapped(239, "!'a' !'b'"), lit("a"), op(api.PNot), lit("b"), op(api.PNot), op(api.PSeq))
	refused(t, wrapped(239, "!!'a'"), 240, api.ErrDeep)
	refused(t, wrapped(239, "!'a' !&'b'"), 245, api.ErrDeep)
	refused(t, wrapped(239, "!('a')"), 240, api.ErrDeep)
	refused(t, wrapped(239, "!'a'* ('b' (.))"), 250, api.ErrDeep)
	refused(t, wrapped(239, "(.)* ('b' {.})"), 249, api.ErrDeep)
	parsed(t, "a <- "+wrapped(240, ".")+" b <- "+wrapped(240, "."), rule("a", op(api.PAny)), rule("b", op(api.PAny)))
	read(t, times("(.)", 1000), row(1000)...)
}

// A row of so many bytes, of 2 n - 1 nodes.
func row(n int) api.Pattern {
	p := api.Pattern{op(api.PAny)}
	for range n - 1 {
		p = append(p, op(api.PAny), op(api.PSeq))
	}
	return p
}

// N1: '{' '}' opens nothing, however deep it stands.
func TestPlacesAtAnyDepth(t *testing.T) {
	place := op(api.PPlace)
	read(t, wrapped(240, "{}"), place)
	read(t, wrapped(240, "{ -- note\n}"), place)
	read(t, wrapped(240, "{}{}*"), place, place, op(api.PStar), op(api.PSeq))
	read(t, wrapped(239, "!{}"), place, op(api.PNot))
	read(t, wrapped(239, "{{}}"), place, op(api.PSub))
	read(t, wrapped(239, "{}({})"), place, place, op(api.PSeq))
	refused(t, wrapped(240, "{{}}"), 240, api.ErrDeep)
	refused(t, wrapped(240, "{.}"), 240, api.ErrDeep)
	refused(t, wrapped(240, "{}{.}"), 242, api.ErrDeep)
	refused(t, wrapped(240, "{}({})"), 242, api.ErrDeep)
	refused(t, wrapped(240, "{(}"), 240, api.ErrDeep)
	refused(t, wrapped(241, "{}"), 240, api.ErrDeep)
	refused(t, times("(", 240)+"{", 240, api.ErrDeep)
	refused(t, times("(", 240)+"{}", 242, api.ErrSyntax)
	read(t, times("{", 58)+"{}"+times("}", 58), append(api.Pattern{place}, slices.Repeat(api.Pattern{op(api.PSub)}, 58)...)...)
}

// N1: a pattern has at most MaxNodes nodes; more are told at the first token of the rule.
func TestLargestPatterns(t *testing.T) {
	whole := append(row(1024), op(api.PStar))
	read(t, times(".", 1024), row(1024)...)
	read(t, "("+times(".", 1024)+")*", whole...)
	parsed(t, "a <- ("+times(".", 1024)+")*", rule("a", whole...))
	refused(t, times(".", 1025), 0, api.ErrLong)
	refused(t, " ("+times(".", 1024)+")**", 1, api.ErrLong)
	refused(t, "\n a <- "+times(".", 1025), 2, api.ErrLong)
	refused(t, "b <- . a <- "+times(".", 1025), 7, api.ErrLong)
	refused(t, times("%u{3b1-3c9}", 256)+" . / .", 0, api.ErrLong)
	// Parentheses are no nodes: a text may have far more tokens than its pattern has nodes.
	read(t, times("(((.)))", 1024), row(1024)...)
}

// N1: a pattern's height is at most MaxNest; more is told at the first token of the rule.
func TestHighestPatterns(t *testing.T) {
	stars := slices.Repeat(api.Pattern{op(api.PStar)}, 59)
	read(t, "."+times("*", 59), append(api.Pattern{op(api.PAny)}, stars...)...)
	refused(t, "."+times("*", 60), 0, api.ErrDeep)
	refused(t, " -- note\n."+times("*", 60), 9, api.ErrDeep)
	refused(t, " ((."+times("*", 60)+"))", 1, api.ErrDeep)
	refused(t, "b <- . a <- ."+times("*", 60)+" c <- .", 7, api.ErrDeep)
	for _, sign := range []string{" ", "/"} {
		right := func(n int) string { return times("."+sign+"(", n) + "." + times(")", n) }
		if _, f := notation.Pattern(right(59)); f != (api.Fault{}) {
			t.Errorf("59 of %q: %v", sign, f)
		}
		refused(t, right(60), 0, api.ErrDeep)
		// Rows from the left are not high.
		if _, f := notation.Pattern("." + times(sign+".", 1000)); f != (api.Fault{}) {
			t.Errorf("a row of %q: %v", sign, f)
		}
	}
}

// N1: all rules' nodes together are at most MaxNodes; the rule that has one too many is told.
func TestAllNodesTogether(t *testing.T) {
	parsed(t, "a <- "+times(".", 1024)+" b <- {}", rule("a", row(1024)...), rule("b", op(api.PPlace)))
	refused(t, "a <- "+times(".", 1024)+" b <- .*", 1030, api.ErrLong)
	refused(t, "a <- "+times(".", 1024)+" b <- {} c <- . d <- .", 1038, api.ErrLong)
	half := times(".", 512)
	parsed(t, "a <- "+half+" b <- "+half+" c <- .*", rule("a", row(512)...), rule("b", row(512)...), rule("c", op(api.PAny), op(api.PStar)))
	refused(t, "a <- "+half+" b <- "+half+" c <- .**", 1036, api.ErrLong)
	refused(t, "a <- "+half+" b <- "+half+half+" c <- .", 518, api.ErrLong)
	refused(t, "a <- . b <- "+times(".", 1024)+" c <- .", 1037, api.ErrLong)
}

// N1: of rules that are too large or too high, the first one is told; of one rule what layer 4 refuses comes first.
func TestFirstRuleComesFirst(t *testing.T) {
	high := "." + times("*", 60)
	refused(t, "a <- "+high+" b <- "+times(".", 1025), 0, api.ErrDeep)
	refused(t, "a <- "+times(".", 1025)+" b <- "+high, 0, api.ErrLong)
	refused(t, "a <- . b <- "+high+" c <- "+times(".", 1025), 7, api.ErrDeep)
	refused(t, "a <- "+times(".", 1024)+" b <- "+high, 1030, api.ErrDeep)
	refused(t, "a <- "+times(".", 1024)+" b <- .* c <- "+high, 1030, api.ErrLong)
	refused(t, "a <- "+high+times(".", 1024), 0, api.ErrLong)
}
