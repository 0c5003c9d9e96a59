package first_test

import (
	"slices"
	"testing"

	"harrow/api"
	"harrow/empty"
	"harrow/first"
	"harrow/tree"
)

// Beside each pattern that is told alone stand rules of a few sorts; v is one of which nothing ever becomes known, and which cannot fail.
const beside = "s <- 'ab' t <- [xy] v <- v w <- 'w' w / %e"

// patternKnown holds Of against what is written down, of a pattern among other rules, and of the same as a rule among them; and the model against it, too.
func patternKnown(t *testing.T, p api.Pattern, want string) {
	t.Helper()
	g := read(t, beside)
	if x, e := first.Of(g, p); told(x) != want || e != api.OK {
		t.Errorf("Of(%v): %s, %v, want %s", p, told(x), e, want)
	}
	if got := told(modelOf(g).whole(p)); got != want {
		t.Errorf("the model of %v: %s, want %s", p, got, want)
	}
	g.Rules = append(g.Rules, rule("last", p...))
	l, e := first.Rules(g)
	if e != api.OK || len(l) != 5 || told(l[4]) != want {
		t.Errorf("Rules with %v: %v, %v, want %s", p, l, e, want)
	}
	parts, e := first.Parts(g, 4)
	if e != api.OK || len(parts) != len(p) || told(parts[len(p)-1]) != want {
		t.Errorf("Parts of %v: %v, %v, want %s", p, parts, e, want)
	}
}

func textKnown(t *testing.T, text, want string) {
	t.Helper()
	patternKnown(t, readPattern(t, text), want)
}

// 11.1, 11.2: the chapter's examples, and the sentences in its table.
func TestExamples(t *testing.T) {
	textKnown(t, "'ab' / [0-9]+", "[0-9a] -")
	textKnown(t, "'a' 'b'*", "[a] h")
	textKnown(t, "'a'* 'b'", "[ab] -")
	textKnown(t, "&'a' .", "[a] -")
	textKnown(t, "!'a' .", "[^] -")
	rulesKnown(t, read(t, "s <- 'x' s / %e"), "[x] e")
	ofKnown(t, read(t, "s <- 'x' s / %e"), "s", "[x] e")
}

// 11.1, 11.2: the rows of nodes without a part.
func TestRowsWithoutParts(t *testing.T) {
	patternKnown(t, list(op(api.PEmpty)), "[] e")
	patternKnown(t, list(op(api.PPlace)), "[] e")
	patternKnown(t, list(op(api.PFail)), "[] h")
	patternKnown(t, list(op(api.PAny)), "[^] h")
	patternKnown(t, list(lit("a")), "[a] h")
	patternKnown(t, list(lit("ab")), "[a] -")
	patternKnown(t, list(lit("aa")), "[a] -")
	patternKnown(t, list(lit("abc")), "[a] -")
	patternKnown(t, list(lit("\xce\xb1")), "[\\xce] -")
	patternKnown(t, list(lit("\xce")), "[\\xce] h")
	patternKnown(t, list(lit(times("z", api.MaxLiteral-1))), "[z] -")
	patternKnown(t, list(lit("y"+times("z", api.MaxLiteral-1))), "[y] -")
	patternKnown(t, list(set(api.Set{})), "[] h")
	patternKnown(t, list(set(api.Set{1})), "[\\x00] h")
	patternKnown(t, list(set(api.Set{0, 6 << 32})), "[ab] h")
	patternKnown(t, list(set(api.Set{0, 0, 0, 1 << 63})), "[\\xff] h")
	patternKnown(t, list(set(api.Set{1<<64 - 1, 1<<64 - 1, 1<<64 - 1, 1<<64 - 1})), "[^] h")
	patternKnown(t, list(call("s")), "[a] -")
	patternKnown(t, list(call("t")), "[xy] h")
	patternKnown(t, list(call("v")), "[] -")
	patternKnown(t, list(call("w")), "[w] e")
}

// 11.1: of each byte, a text of that byte alone, one that begins with it, and a set of it.
func TestEachByte(t *testing.T) {
	g := read(t, beside)
	for b := range 256 {
		var want api.Set
		want[b/64] = 1 << (b % 64)
		for _, c := range []struct {
			node     api.Node
			headFail bool
		}{{lit(string([]byte{byte(b)})), true}, {lit(string([]byte{byte(b), 'x'})), false}, {lit(string([]byte{byte(b), byte(b)})), false}, {set(want), true}} {
			if x, e := first.Of(g, list(c.node)); x != (api.Firsts{Set: want, HeadFail: c.headFail}) || e != api.OK {
				t.Errorf("%d: Of(%v): %s, %v", b, c.node, told(x), e)
			}
		}
	}
}

// Parts of all sorts: those that are Empty, or HeadFail, or neither; that can fail, and that cannot; that have no byte, some, and all.
var partTexts = []string{"%e", "'ab'", "'c'", "[de]", "!'a'", "%f", "'f'*", "v", "w", "'g' / v", ". 'x'", "."}

func partsAreAsMeant(t *testing.T) {
	t.Helper()
	for i, want := range []string{"[] e", "[a] -", "[c] h", "[de] h", "[] e", "[] h", "[f] e", "[] -", "[w] e", "[g] -", "[^] -", "[^] h"} {
		textKnown(t, partTexts[i], want)
	}
}

// 11.1, 11.2: the rows of nodes with one part, with each sort of part.
func TestRowsWithOnePart(t *testing.T) {
	partsAreAsMeant(t)
	nothing := [12]string{"[] e", "[] e", "[] e", "[] e", "[] e", "[] e", "[] e", "[] e", "[] e", "[] e", "[] e", "[] e"}
	perhaps := [12]string{"[] e", "[a] e", "[c] e", "[de] e", "[] e", "[] e", "[f] e", "[] e", "[w] e", "[g] e", "[^] e", "[^] e"}
	often := [12]string{"[] e", "[a] -", "[c] -", "[de] -", "[] e", "[] -", "[f] e", "[] -", "[w] e", "[g] -", "[^] -", "[^] -"}
	itself := [12]string{"[] e", "[a] -", "[c] h", "[de] h", "[] e", "[] h", "[f] e", "[] -", "[w] e", "[g] -", "[^] -", "[^] h"}
	for n, want := range map[api.Node][12]string{
		op(api.PStar):           perhaps,
		op(api.PPlus):           itself,
		op(api.POpt):            perhaps,
		op(api.PAnd):            itself,
		op(api.PNot):            nothing,
		counted(api.PTimes, 0):  nothing,
		counted(api.PTimes, 1):  itself,
		counted(api.PTimes, 2):  often,
		counted(api.PTimes, 3):  often,
		counted(api.PTimes, 50): often,
		counted(api.PLeast, 0):  perhaps,
		counted(api.PLeast, 1):  itself,
		counted(api.PLeast, 2):  often,
		counted(api.PLeast, 3):  often,
		counted(api.PLeast, 50): often,
		counted(api.PMost, 0):   nothing,
		counted(api.PMost, 1):   perhaps,
		counted(api.PMost, 2):   perhaps,
		counted(api.PMost, 50):  perhaps,
	} {
		for i, text := range partTexts {
			patternKnown(t, append(readPattern(t, text), n), want[i])
		}
	}
}

// 11.1, 11.2: a capture is as its part, whatever its Text and N.
func TestRowsOfCaptures(t *testing.T) {
	captures := list(op(api.PSub), op(api.PGroup), worded(api.PGroup, "s"), op(api.PList), op(api.PSubst), op(api.PString), worded(api.PString, "%0x"), op(api.PPick), counted(api.PPick, 1), counted(api.PPick, 2), counted(api.PPick, 50))
	for i, want := range []string{"[] e", "[a] -", "[c] h", "[de] h", "[] e", "[] h", "[f] e", "[] -", "[w] e", "[g] -", "[^] -", "[^] h"} {
		p := readPattern(t, partTexts[i])
		for _, n := range captures {
			patternKnown(t, append(slices.Clone(p), n), want)
		}
		patternKnown(t, append(slices.Clone(p), captures...), want)
	}
}

// Of two parts beside each other: the first four are Empty, the last two HeadFail; the first one, the third one and the sixth one cannot fail.
var pairTexts = []string{"%e", "!'a'", "'b'*", "!. / 'c'", "'de'", "v", "'f'", "%f"}

func pairsAreAsMeant(t *testing.T) {
	t.Helper()
	for i, want := range []string{"[] e", "[] e", "[b] e", "[c] e", "[d] -", "[] -", "[f] h", "[] h"} {
		textKnown(t, pairTexts[i], want)
		x, e := empty.Of(read(t, beside), readPattern(t, pairTexts[i]))
		if x.CanFail != (i != 0 && i != 2 && i != 5) || e != api.OK {
			t.Error(pairTexts[i], x, e)
		}
	}
}

// 11.1, 11.2: the rows of nodes with two parts, with each two sorts of parts in both orders.
func TestRowsWithTwoParts(t *testing.T) {
	pairsAreAsMeant(t)
	for kind, want := range map[int][8][8]string{
		api.PSeq: {
			{"[] e", "[] e", "[b] e", "[c] e", "[d] -", "[] -", "[f] -", "[] -"},
			{"[] e", "[] e", "[b] e", "[c] e", "[d] -", "[] -", "[f] -", "[] -"},
			{"[b] e", "[b] e", "[b] e", "[bc] e", "[bd] -", "[b] -", "[bf] -", "[b] -"},
			{"[c] e", "[c] e", "[bc] e", "[c] e", "[cd] -", "[c] -", "[cf] -", "[c] -"},
			{"[d] -", "[d] -", "[d] -", "[d] -", "[d] -", "[d] -", "[d] -", "[d] -"},
			{"[] -", "[] -", "[] -", "[] -", "[] -", "[] -", "[] -", "[] -"},
			{"[f] h", "[f] -", "[f] h", "[f] -", "[f] -", "[f] h", "[f] -", "[f] -"},
			{"[] h", "[] -", "[] h", "[] -", "[] -", "[] h", "[] -", "[] -"},
		},
		api.PChoice: {
			{"[] e", "[] e", "[b] e", "[c] e", "[d] e", "[] e", "[f] e", "[] e"},
			{"[] e", "[] e", "[b] e", "[c] e", "[d] e", "[] e", "[f] e", "[] e"},
			{"[b] e", "[b] e", "[b] e", "[bc] e", "[bd] e", "[b] e", "[bf] e", "[b] e"},
			{"[c] e", "[c] e", "[bc] e", "[c] e", "[cd] e", "[c] e", "[cf] e", "[c] e"},
			{"[d] e", "[d] e", "[bd] e", "[cd] e", "[d] -", "[d] -", "[df] -", "[d] -"},
			{"[] e", "[] e", "[b] e", "[c] e", "[d] -", "[] -", "[f] -", "[] -"},
			{"[f] e", "[f] e", "[bf] e", "[cf] e", "[df] -", "[f] -", "[f] h", "[f] h"},
			{"[] e", "[] e", "[b] e", "[c] e", "[d] -", "[] -", "[f] h", "[] h"},
		},
	} {
		for i, one := range pairTexts {
			for j, other := range pairTexts {
				p := append(readPattern(t, one), readPattern(t, other)...)
				patternKnown(t, append(p, op(kind)), want[i][j])
			}
		}
	}
}

// 11.1, 11.2: parts that are put together of several nodes.
func TestPartsPutTogether(t *testing.T) {
	textKnown(t, "'a' / 'b' / 'c'", "[a-c] h")
	textKnown(t, "'a' / 'bb' / 'c'", "[a-c] -")
	textKnown(t, "'a'? 'b'? 'c'", "[a-c] -")
	textKnown(t, "'a'? 'b'? 'c'?", "[a-c] e")
	textKnown(t, "'a'? ('b' 'c') 'd'", "[ab] -")
	textKnown(t, "'a' 'b'? 'c'*", "[a] h")
	textKnown(t, "'a' ('b'? 'c'*)", "[a] h")
	textKnown(t, "'a' ('b'? 'c'+)", "[a] -")
	textKnown(t, "'a' ('b' / %e)", "[a] h")
	textKnown(t, "'a' (%e / 'b')", "[a] h")
	textKnown(t, "'a' &('b' / %e)", "[a] h")
	textKnown(t, "'a' &'b'", "[a] -")
	textKnown(t, "'a' !%f", "[a] -")
	textKnown(t, "'a' 'b'^0", "[a] h")
	textKnown(t, "'a' 'b'^+0", "[a] h")
	textKnown(t, "'a' 'b'^-3", "[a] h")
	textKnown(t, "'a' 'b'^1", "[a] -")
	textKnown(t, "'a' {}", "[a] h")
	textKnown(t, "{} 'a'", "[a] -")
	textKnown(t, "%e 'a'", "[a] -")
	textKnown(t, "'a' %e", "[a] h")
	textKnown(t, "('a' 'b'*) 'c'?", "[a] h")
	textKnown(t, "('a' / 'b') 'c'?", "[ab] h")
	textKnown(t, "('a' 'b'* / [cd]+) w", "[acd] h")
	textKnown(t, "t w", "[xy] h")
	textKnown(t, "w t", "[w-y] -")
	textKnown(t, "s w", "[a] -")
	textKnown(t, "t s", "[xy] -")
	textKnown(t, "t v", "[xy] h")
	textKnown(t, "v t", "[] -")
	textKnown(t, "&w t", "[w-y] -")
	textKnown(t, "!w t", "[xy] -")
	textKnown(t, "&t w", "[xy] h")
	textKnown(t, "&t t", "[xy] -")
	textKnown(t, "&.", "[^] h")
	textKnown(t, "!.", "[] e")
	textKnown(t, "!!'a'", "[] e")
	textKnown(t, "&&'a'", "[a] h")
	textKnown(t, "!. / .", "[^] e")
	textKnown(t, "('a'?)* 'b'", "[ab] -")
	textKnown(t, "('a'?)+ 'b'", "[ab] -")
	textKnown(t, "{:k: {| {~ 'a' -> 'x' ~} |} :} -> 2", "[a] h")
	textKnown(t, "'a'^1^1^+1", "[a] h")
	textKnown(t, "'a'^2^1", "[a] -")
	textKnown(t, "('a'^0)+", "[] e")
	textKnown(t, "%u{3b1-3c9}", "[\\xce\\xcf] -")
}

// 11.1, 11.2: all patterns of a node above a node above a node, and of two beside each other under each node.
func TestSmallPatternsAsModel(t *testing.T) {
	g := read(t, beside)
	m := modelOf(g)
	held := func(p api.Pattern) {
		t.Helper()
		want := m.whole(p)
		if x, e := first.Of(g, p); x != want || e != api.OK {
			t.Fatalf("Of(%v): %s, %v, want %s", p, told(x), e, told(want))
		}
	}
	leaves := list(op(api.PEmpty), op(api.PFail), lit("a"), lit("bc"), set(api.Set{0, 3 << 36}), op(api.PPlace), call("s"), call("t"), call("v"), call("w"))
	var single api.Pattern
	for kind := api.PStar; kind <= api.PPick; kind++ {
		switch {
		case tree.Arity(kind) == 0:
		case kind == api.PTimes || kind == api.PLeast || kind == api.PMost:
			single = append(single, counted(kind, 0), counted(kind, 1), counted(kind, 2), counted(kind, 50))
		default:
			single = append(single, op(kind))
		}
	}
	for _, leaf := range leaves {
		held(list(leaf))
		for _, n := range single {
			held(list(leaf, n))
			for _, above := range single {
				held(list(leaf, n, above))
			}
			for _, other := range leaves {
				for _, kind := range []int{api.PSeq, api.PChoice} {
					held(list(leaf, n, other, op(kind)))
					held(list(other, leaf, n, op(kind)))
					held(list(leaf, other, op(kind), n))
				}
			}
		}
	}
}
