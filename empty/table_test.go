package empty_test

import (
	"slices"
	"testing"

	"harrow/api"
	"harrow/empty"
)

// Beside each pattern that is told alone stand rules of a few sorts; v is one of which nothing is known but that it comes to itself: it is not Nullable, and it cannot fail.
const beside = "s <- 'ab' t <- s 'c'? v <- v w <- 'x' w / %e"

// patternKnown holds Of against what is written down, of a pattern among other rules and of the same as a rule among them.
func patternKnown(t *testing.T, p api.Pattern, want string) {
	t.Helper()
	g := read(t, beside)
	if x, e := empty.Of(g, p); told(x) != want || e != api.OK {
		t.Errorf("Of(%v): %s, %v, want %s", p, told(x), e, want)
	}
	if got := told(taleOf(p, byOpenRules(g)).known()); got != want {
		t.Errorf("the model of %v: %s, want %s", p, got, want)
	}
	g.Rules = append(g.Rules, rule("last", p...))
	l, e := empty.Rules(g)
	if e != api.OK || len(l) != 5 || told(l[4]) != want {
		t.Errorf("Rules with %v: %v, %v, want %s", p, l, e, want)
	}
}

func textKnown(t *testing.T, text, want string) {
	t.Helper()
	patternKnown(t, readPattern(t, text), want)
}

// rulesKnown holds Rules against what is written down, and that against both models.
func rulesKnown(t *testing.T, g api.Grammar, want ...string) {
	t.Helper()
	l, e := empty.Rules(g)
	if e != api.OK || len(l) != len(want) {
		t.Fatalf("Rules of %d rules: %v, %v", len(g.Rules), l, e)
	}
	rounds := byRounds(g)
	for r, x := range g.Rules {
		if told(l[r]) != want[r] {
			t.Errorf("Rules: of %s %s, want %s", x.Name, told(l[r]), want[r])
		}
		if got := told(rounds(x.Name).known()); got != want[r] {
			t.Errorf("the model: of %s %s, want %s", x.Name, got, want[r])
		}
	}
}

// 9.1, 9.2: the chapter's examples.
func TestExamples(t *testing.T) {
	rulesKnown(t, read(t, "s <- 'a' s / %e t <- 'ab'^2 'c'? u <- u 'a'"), "n 0 many", "f 4 5", "f none many")
	textKnown(t, "'a'* 'b'", "f 1 many")
	textKnown(t, "&'abc'", "nf 0 0")
	textKnown(t, "('a'?)*", "n 0 many")
	textKnown(t, "%f / 'x'", "f 1 1")
	textKnown(t, "'abcd'^50^50^50^50", "f 1048576 many")
}

// 9.1: the rows of nodes without a part.
func TestRowsWithoutParts(t *testing.T) {
	patternKnown(t, list(op(api.PEmpty)), "n 0 0")
	patternKnown(t, list(op(api.PPlace)), "n 0 0")
	patternKnown(t, list(op(api.PFail)), "f none 0")
	patternKnown(t, list(op(api.PAny)), "f 1 1")
	for _, s := range []api.Set{{}, {1}, {0, 6}, {1<<64 - 1, 1<<64 - 1, 1<<64 - 1, 1<<64 - 1}} {
		patternKnown(t, list(api.Node{Op: api.PSet, Set: s}), "f 1 1")
	}
	patternKnown(t, list(lit("a")), "f 1 1")
	patternKnown(t, list(lit("\x00")), "f 1 1")
	patternKnown(t, list(lit("\xce\xb1")), "f 2 2")
	patternKnown(t, list(lit(times("a", 254))), "f 254 254")
	patternKnown(t, list(lit(times("a", api.MaxLiteral))), "f 255 255")
	patternKnown(t, list(call("s")), "f 2 2")
	patternKnown(t, list(call("t")), "f 2 3")
	patternKnown(t, list(call("v")), "- none many")
	patternKnown(t, list(call("w")), "n 0 many")
}

// Parts of all sorts: those that may match nothing and that cannot, that may fail and that cannot, that never match, and that have no bound.
var partTexts = []string{"%e", "'ab'", "!'a'", "%f", "'ab'+", "'ab'*", "'ab'?", "v", "'x' / v"}

func partsAreAsMeant(t *testing.T) {
	t.Helper()
	for i, want := range []string{"n 0 0", "f 2 2", "nf 0 0", "f none 0", "f 2 many", "n 0 many", "n 0 2", "- none many", "- 1 many"} {
		textKnown(t, partTexts[i], want)
	}
}

// 9.1: the rows of nodes with one part, with each sort of part.
func TestRowsWithOnePart(t *testing.T) {
	partsAreAsMeant(t)
	for n, want := range map[api.Node][9]string{
		op(api.PStar):           {"n 0 0", "n 0 many", "n 0 0", "n 0 0", "n 0 many", "n 0 many", "n 0 many", "n 0 many", "n 0 many"},
		op(api.PPlus):           {"n 0 0", "f 2 many", "nf 0 0", "f none 0", "f 2 many", "n 0 many", "n 0 many", "- none many", "- 1 many"},
		op(api.POpt):            {"n 0 0", "n 0 2", "n 0 0", "n 0 0", "n 0 many", "n 0 many", "n 0 2", "n 0 many", "n 0 many"},
		op(api.PAnd):            {"n 0 0", "nf 0 0", "nf 0 0", "nf 0 0", "nf 0 0", "n 0 0", "n 0 0", "n 0 0", "n 0 0"},
		op(api.PNot):            {"nf 0 0", "nf 0 0", "nf 0 0", "nf 0 0", "nf 0 0", "nf 0 0", "nf 0 0", "nf 0 0", "nf 0 0"},
		counted(api.PTimes, 0):  {"n 0 0", "n 0 0", "n 0 0", "n 0 0", "n 0 0", "n 0 0", "n 0 0", "n 0 0", "n 0 0"},
		counted(api.PTimes, 1):  {"n 0 0", "f 2 2", "nf 0 0", "f none 0", "f 2 many", "n 0 many", "n 0 2", "- none many", "- 1 many"},
		counted(api.PTimes, 2):  {"n 0 0", "f 4 4", "nf 0 0", "f none 0", "f 4 many", "n 0 many", "n 0 4", "- none many", "- 2 many"},
		counted(api.PTimes, 50): {"n 0 0", "f 100 100", "nf 0 0", "f none 0", "f 100 many", "n 0 many", "n 0 100", "- none many", "- 50 many"},
		counted(api.PLeast, 0):  {"n 0 0", "n 0 many", "n 0 0", "n 0 0", "n 0 many", "n 0 many", "n 0 many", "n 0 many", "n 0 many"},
		counted(api.PLeast, 1):  {"n 0 0", "f 2 many", "nf 0 0", "f none 0", "f 2 many", "n 0 many", "n 0 many", "- none many", "- 1 many"},
		counted(api.PLeast, 2):  {"n 0 0", "f 4 many", "nf 0 0", "f none 0", "f 4 many", "n 0 many", "n 0 many", "- none many", "- 2 many"},
		counted(api.PLeast, 50): {"n 0 0", "f 100 many", "nf 0 0", "f none 0", "f 100 many", "n 0 many", "n 0 many", "- none many", "- 50 many"},
		counted(api.PMost, 0):   {"n 0 0", "n 0 0", "n 0 0", "n 0 0", "n 0 0", "n 0 0", "n 0 0", "n 0 0", "n 0 0"},
		counted(api.PMost, 1):   {"n 0 0", "n 0 2", "n 0 0", "n 0 0", "n 0 many", "n 0 many", "n 0 2", "n 0 many", "n 0 many"},
		counted(api.PMost, 2):   {"n 0 0", "n 0 4", "n 0 0", "n 0 0", "n 0 many", "n 0 many", "n 0 4", "n 0 many", "n 0 many"},
		counted(api.PMost, 50):  {"n 0 0", "n 0 100", "n 0 0", "n 0 0", "n 0 many", "n 0 many", "n 0 100", "n 0 many", "n 0 many"},
	} {
		for i, text := range partTexts {
			patternKnown(t, append(readPattern(t, text), n), want[i])
		}
	}
}

// 9.1: a capture is as its part, whatever its Text and N.
func TestRowsOfCaptures(t *testing.T) {
	captures := list(op(api.PSub), op(api.PGroup), api.Node{Op: api.PGroup, Text: "s"}, op(api.PList), op(api.PSubst), op(api.PString), api.Node{Op: api.PString, Text: "%0x"}, op(api.PPick), counted(api.PPick, 2), counted(api.PPick, 50))
	for i, want := range []string{"n 0 0", "f 2 2", "nf 0 0", "f none 0", "f 2 many", "n 0 many", "n 0 2", "- none many", "- 1 many"} {
		p := readPattern(t, partTexts[i])
		for _, n := range captures {
			patternKnown(t, append(slices.Clone(p), n), want)
		}
		patternKnown(t, append(slices.Clone(p), captures...), want)
	}
}

// 9.1: the rows of nodes with two parts, with each two sorts of parts in both orders: a sum with none and with no bound, the lesser one of none and a number, the greater one of no bound and a number.
func TestRowsWithTwoParts(t *testing.T) {
	texts := []string{"%e", "'ab'", "!'a'", "%f", "'ab'*", "v"}
	for kind, want := range map[int][6][6]string{
		api.PSeq: {
			{"n 0 0", "f 2 2", "nf 0 0", "f none 0", "n 0 many", "- none many"},
			{"f 2 2", "f 4 4", "f 2 2", "f none 2", "f 2 many", "f none many"},
			{"nf 0 0", "f 2 2", "nf 0 0", "f none 0", "nf 0 many", "f none many"},
			{"f none 0", "f none 2", "f none 0", "f none 0", "f none many", "f none many"},
			{"n 0 many", "f 2 many", "nf 0 many", "f none many", "n 0 many", "- none many"},
			{"- none many", "f none many", "f none many", "f none many", "- none many", "- none many"},
		},
		api.PChoice: {
			{"n 0 0", "n 0 2", "n 0 0", "n 0 0", "n 0 many", "n 0 many"},
			{"n 0 2", "f 2 2", "nf 0 2", "f 2 2", "n 0 many", "- 2 many"},
			{"n 0 0", "nf 0 2", "nf 0 0", "nf 0 0", "n 0 many", "n 0 many"},
			{"n 0 0", "f 2 2", "nf 0 0", "f none 0", "n 0 many", "- none many"},
			{"n 0 many", "n 0 many", "n 0 many", "n 0 many", "n 0 many", "n 0 many"},
			{"n 0 many", "- 2 many", "n 0 many", "- none many", "n 0 many", "- none many"},
		},
	} {
		for i, first := range texts {
			for j, second := range texts {
				p := append(readPattern(t, first), readPattern(t, second)...)
				patternKnown(t, append(p, op(kind)), want[i][j])
			}
		}
	}
	textKnown(t, "'a' / 'abc'", "f 1 3")
	textKnown(t, "'abc' / 'a'", "f 1 3")
	textKnown(t, "'abc' / 'ab' / 'abcd'", "f 2 4")
	textKnown(t, "'a' 'bc' / 'b'^2 'c'?", "f 2 3")
	textKnown(t, "('a' / 'bc') ('d' / 'efg')", "f 2 5")
}

// 9.1: all patterns of a node above a node above a node, and of two beside each other under each node.
func TestSmallPatternsAsModel(t *testing.T) {
	g := read(t, beside)
	m := byOpenRules(g)
	held := func(p api.Pattern) {
		t.Helper()
		want := taleOf(p, m).known()
		if x, e := empty.Of(g, p); x != want || e != api.OK {
			t.Fatalf("Of(%v): %s, %v, want %s", p, told(x), e, told(want))
		}
	}
	leaves := list(op(api.PEmpty), op(api.PFail), op(api.PAny), lit("abc"), op(api.PSet), op(api.PPlace), call("s"), call("t"), call("v"), call("w"))
	var single api.Pattern
	for kind := api.PStar; kind <= api.PPick; kind++ {
		switch kind {
		case api.PPlace:
		case api.PTimes, api.PLeast, api.PMost:
			single = append(single, counted(kind, 0), counted(kind, 1), counted(kind, 3), counted(kind, 50))
		default:
			single = append(single, op(kind))
		}
	}
	for _, leaf := range leaves {
		held(list(leaf))
		for _, n := range single {
			held(list(leaf, n))
			for _, above := range single {
				held(list(leaf, n, above))
			}
			for _, other := range leaves {
				for _, kind := range []int{api.PSeq, api.PChoice} {
					held(list(leaf, n, other, op(kind)))
					held(list(other, leaf, n, op(kind)))
					held(list(leaf, other, op(kind), n))
				}
			}
		}
	}
}

// 'aaa'^25^11^31^41 has MaxLength - 1 bytes, and 'a'^32^32^32^32 has MaxLength.
const (
	justUnder = "'aaa'^25^11^31^41"
	justAt    = "'a'^32^32^32^32"
)

// 9.1: a Least just at MaxLength, and above it: it is told, and counts, as that. A Most just at it, and above it: as no bound.
func TestLengthsAtTheLimit(t *testing.T) {
	textKnown(t, justUnder, "f 1048575 1048575")
	textKnown(t, justAt, "f 1048576 1048576")
	textKnown(t, justUnder+" 'a'", "f 1048576 1048576")
	textKnown(t, "'a' "+justUnder, "f 1048576 1048576")
	textKnown(t, justUnder+" 'ab'", "f 1048576 many")
	textKnown(t, justAt+" 'a'", "f 1048576 many")
	textKnown(t, "'a' "+justAt, "f 1048576 many")
	textKnown(t, justAt+" "+justAt, "f 1048576 many")
	textKnown(t, "'a'^32^32^32^33", "f 1048576 many")
	textKnown(t, "'a'^50^50^50^50", "f 1048576 many")
	textKnown(t, "'a'^32^32^16 'a'^32^32^16", "f 32768 32768")
	textKnown(t, justUnder+"?", "n 0 1048575")
	textKnown(t, justAt+"?", "n 0 1048576")
	textKnown(t, "("+justAt+" 'a')?", "n 0 many")
	textKnown(t, "'a'^32^32^32^-32", "n 0 1048576")
	textKnown(t, "'a'^32^32^32^-33", "n 0 many")
	textKnown(t, "'a'^32^32^32^+32", "f 1048576 many")
	textKnown(t, "'a'^32^32^32^+33", "f 1048576 many")
	textKnown(t, "'aaa'^25^11^31^+41", "f 1048575 many")
	textKnown(t, "'a'? "+justUnder, "f 1048575 1048576")
	textKnown(t, "'ab'? "+justUnder, "f 1048575 many")
	textKnown(t, "'a'? "+justAt, "f 1048576 many")
	// What was cut counts as what it was cut to.
	textKnown(t, "("+justAt+" 'a') / "+justUnder, "f 1048575 many")
	textKnown(t, "("+justAt+" 'a') / "+justAt, "f 1048576 many")
	textKnown(t, "("+justAt+" 'a') / %f", "f 1048576 many")
	textKnown(t, "("+justAt+" 'a') %f", "f none many")
	textKnown(t, justAt+" %f", "f none 1048576")
	textKnown(t, "(("+justAt+" 'a') / 'x') 'y'", "f 2 many")
	textKnown(t, "("+justAt+" 'a')^50", "f 1048576 many")
	textKnown(t, "("+justAt+" 'a')^1", "f 1048576 many")
	textKnown(t, "("+justAt+" 'a')^0", "n 0 0")
	textKnown(t, "&("+justAt+" 'a')", "nf 0 0")
	textKnown(t, "!("+justAt+" 'a')", "nf 0 0")
	textKnown(t, "{"+justAt+"}", "f 1048576 1048576")
	textKnown(t, "{"+justAt+" 'a'}", "f 1048576 many")
	textKnown(t, justAt+"+", "f 1048576 many")
	textKnown(t, "%f^50", "f none 0")
	textKnown(t, "(%f "+justAt+")^2", "f none many")
	// Towers of the greatest count that a node may hold.
	patternKnown(t, tower(59, counted(api.PTimes, 50), lit(times("a", 255))), "f 1048576 many")
	patternKnown(t, tower(59, counted(api.PLeast, 50), lit(times("a", 255))), "f 1048576 many")
	patternKnown(t, tower(59, counted(api.PMost, 50), lit(times("a", 255))), "n 0 many")
	patternKnown(t, tower(59, counted(api.PTimes, 50), op(api.PFail)), "f none 0")
	patternKnown(t, tower(59, counted(api.PTimes, 50), op(api.PEmpty)), "n 0 0")
	patternKnown(t, tower(59, counted(api.PTimes, 1), lit(times("a", 255))), "f 255 255")
}

// 9.1: lengths are cut in rules as in patterns, just where they pass the limit.
func TestLengthsOfRulesAtTheLimit(t *testing.T) {
	double := "r0 <- 'a'"
	want := []string{"f 1 1"}
	least := 1
	for r := 1; r < 30; r++ {
		double += " " + nameOf(r) + " <- " + nameOf(r-1) + " " + nameOf(r-1)
		least *= 2
		most := least
		if r > 20 {
			least, most = 1<<20, -1
		}
		want = append(want, told(api.Emptiness{CanFail: true, Least: least, Most: most}))
	}
	rulesKnown(t, read(t, double), want...)
	rulesKnown(t, read(t, "s <- "+justAt+" t / u t <- 'a' s / "+justUnder+" u <- t 'aa'"), "f 1048576 many", "f 1048575 many", "f 1048576 many")
	rulesKnown(t, read(t, "s <- t 'a' t <- "+justUnder+" u <- s 'a' w <- u / 'b'"), "f 1048576 1048576", "f 1048575 1048575", "f 1048576 many", "f 1 many")
}
