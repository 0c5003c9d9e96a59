package ford_test

import (
	"slices"
	"testing"

	"harrow/api"
	"harrow/ford"
)

func headsAre(t *testing.T, g api.Grammar, r int, want ...int) {
	t.Helper()
	if l, e := ford.Heads(g, r); !slices.Equal(l, want) || e != api.OK {
		t.Errorf("Heads(%s, %d): %v, %v, want %v", text(g), r, l, e, want)
	}
}

func loopsAre(t *testing.T, g api.Grammar, want ...api.Spot) {
	t.Helper()
	if l, e := ford.Loops(g); !slices.Equal(l, want) || e != api.OK {
		t.Errorf("Loops(%s): %v, %v, want %v", text(g), l, e, want)
	}
}

func orderIs(t *testing.T, text string, want ...int) {
	t.Helper()
	if l, e := ford.Order(read(t, text)); !slices.Equal(l, want) || e != api.OK {
		t.Errorf("Order(%s): %v, %v, want %v", text, l, e, want)
	}
}

// F2, F3: the chapter's examples.
func TestExamplesOfHeadsLoopsAndOrder(t *testing.T) {
	headsAre(t, read(t, "a <- 'x' a / %e"), 0)
	headsAre(t, read(t, "s <- s 'a' / 'b'"), 0, 0)
	g := read(t, "a <- b 'x' b <- 'y'? a")
	headsAre(t, g, 0, 1)
	headsAre(t, g, 1, 0)
	orderIs(t, "a <- b b <- c c <- 'x'", 2, 1, 0)
	loopsAre(t, read(t, "('a'* / %e)+ 'b'^0"), api.Spot{Node: 4})
}

// The rules beside which nodes are tried: s is the node's, none may match nothing, one may not, then come others.
func beside(body api.Pattern) api.Grammar {
	return grammar(rule("s", body...), rule("none", lit("a"), op(api.POpt)), rule("one", op(api.PAny)), rule("next", lit("n")), rule("other", lit("o"), op(api.PStar)))
}

// A row of the chapter's words about nodes with one part: whether the node may match nothing, if its part may and if it may not, and whether it begins with what that begins with.
type kind struct {
	node              api.Node
	ofNone, ofOne, in bool
}

var kinds = []kind{
	{op(api.PStar), true, true, true},
	{op(api.PPlus), true, false, true},
	{op(api.POpt), true, true, true},
	{op(api.PAnd), true, true, true},
	{op(api.PNot), true, true, true},
	{counted(api.PTimes, 0), true, true, false},
	{counted(api.PTimes, 1), true, false, true},
	{counted(api.PTimes, 50), true, false, true},
	{counted(api.PLeast, 0), true, true, true},
	{counted(api.PLeast, 1), true, false, true},
	{counted(api.PLeast, 50), true, false, true},
	{counted(api.PMost, 0), true, true, false},
	{counted(api.PMost, 1), true, true, true},
	{counted(api.PMost, 50), true, true, true},
	{op(api.PSub), true, false, true},
	{op(api.PGroup), true, false, true},
	{worded(api.PGroup, "next"), true, false, true},
	{op(api.PList), true, false, true},
	{op(api.PSubst), true, false, true},
	{op(api.PString), true, false, true},
	{worded(api.PString, "next"), true, false, true},
	{op(api.PPick), true, false, true},
	{counted(api.PPick, 2), true, false, true},
}

// holds tries a pattern whose calls are of none and of one, of which is known whether it may match nothing, with which of these rules it begins, and which of its nodes are loops: alone, as the first and the second part of a sequence and of a choice, and as the part of a loop.
func holds(t *testing.T, p api.Pattern, mayMatchNothing bool, heads, loops []int) {
	t.Helper()
	size := len(p)
	with := func(more ...int) []int {
		l := slices.Concat(heads, more)
		slices.Sort(l)
		return l
	}
	then := func(l ...api.Node) api.Grammar { return beside(slices.Concat(p, l)) }
	behind := func(last int, l ...api.Node) api.Grammar { return beside(append(slices.Concat(l, p), op(last))) }
	var spots []api.Spot
	for _, at := range loops {
		spots = append(spots, api.Spot{Node: at})
	}
	headsAre(t, beside(p), 0, heads...)
	loopsAre(t, beside(p), spots...)
	if mayMatchNothing {
		headsAre(t, then(call("next"), op(api.PSeq)), 0, with(3)...)
		headsAre(t, then(call("other"), op(api.PSeq), call("next"), op(api.PSeq)), 0, with(3, 4)...)
	} else {
		headsAre(t, then(call("next"), op(api.PSeq)), 0, heads...)
		headsAre(t, then(call("other"), op(api.PSeq), call("next"), op(api.PSeq)), 0, heads...)
	}
	headsAre(t, behind(api.PSeq, call("next")), 0, 3)
	headsAre(t, behind(api.PSeq, call("other")), 0, with(4)...)
	headsAre(t, behind(api.PChoice, call("next")), 0, with(3)...)
	headsAre(t, then(call("next"), op(api.PChoice)), 0, with(3)...)
	for _, loop := range []api.Node{op(api.PStar), op(api.PPlus), counted(api.PLeast, 0), counted(api.PLeast, 1), counted(api.PLeast, 50)} {
		headsAre(t, then(loop), 0, heads...)
		if mayMatchNothing {
			loopsAre(t, then(loop), slices.Concat(spots, []api.Spot{{Node: size}})...)
			loopsAre(t, then(op(api.PSub), loop, lit("x"), op(api.PSeq)), slices.Concat(spots, []api.Spot{{Node: size + 1}})...)
		} else {
			loopsAre(t, then(loop), spots...)
			loopsAre(t, then(op(api.PSub), loop, lit("x"), op(api.PSeq)), spots...)
		}
	}
}

// F2: each kind of node without parts.
func TestNodesWithoutParts(t *testing.T) {
	for _, n := range []api.Node{op(api.PEmpty), op(api.PPlace)} {
		holds(t, list(n), true, nil, nil)
	}
	for _, n := range []api.Node{op(api.PFail), op(api.PAny), lit("a"), lit("next"), op(api.PSet), {Op: api.PSet, Set: api.Set{1, 2, 3, 4}}} {
		holds(t, list(n), false, nil, nil)
	}
	holds(t, list(call("none")), true, []int{1}, nil)
	holds(t, list(call("one")), false, []int{2}, nil)
}

// F2: each kind of node with one part, which may match nothing or may not, by itself or by its rule.
func TestNodesWithOnePart(t *testing.T) {
	for _, k := range kinds {
		isLoop := k.node.Op == api.PStar || k.node.Op == api.PPlus || k.node.Op == api.PLeast
		for _, part := range []api.Node{op(api.PEmpty), op(api.PPlace), call("none")} {
			var heads, loops []int
			if part.Op == api.PCall && k.in {
				heads = []int{1}
			}
			if isLoop {
				loops = []int{1}
			}
			holds(t, list(part, k.node), k.ofNone, heads, loops)
		}
		for _, part := range []api.Node{op(api.PAny), op(api.PFail), call("one")} {
			var heads []int
			if part.Op == api.PCall && k.in {
				heads = []int{2}
			}
			holds(t, list(part, k.node), k.ofOne, heads, nil)
		}
	}
}

// F2: both kinds of nodes with two parts.
func TestNodesWithTwoParts(t *testing.T) {
	none, one, seq, choice := call("none"), call("one"), op(api.PSeq), op(api.PChoice)
	holds(t, list(none, none, seq), true, []int{1}, nil)
	holds(t, list(none, one, seq), false, []int{1, 2}, nil)
	holds(t, list(one, none, seq), false, []int{2}, nil)
	holds(t, list(one, one, seq), false, []int{2}, nil)
	holds(t, list(none, none, choice), true, []int{1}, nil)
	holds(t, list(none, one, choice), true, []int{1, 2}, nil)
	holds(t, list(one, none, choice), true, []int{1, 2}, nil)
	holds(t, list(one, one, choice), false, []int{2}, nil)
	holds(t, list(op(api.PEmpty), one, seq), false, []int{2}, nil)
	holds(t, list(op(api.PAny), one, seq), false, nil, nil)
	holds(t, list(op(api.PFail), none, seq), false, nil, nil)
	holds(t, list(op(api.PFail), none, choice), true, []int{1}, nil)
	holds(t, list(op(api.PAny), op(api.PEmpty), choice), true, nil, nil)
}

// F2: rules that begin with none, one and several others, rising and each once, in whatever order they are called.
func TestHeads(t *testing.T) {
	g := read(t, "a <- d / c / b / c / d b <- 'x' c <- b? d <- c* b+ 'y' a e <- 'z' a f <- !e &d {c}")
	headsAre(t, g, 0, 1, 2, 3)
	headsAre(t, g, 1)
	headsAre(t, g, 2, 1)
	headsAre(t, g, 3, 1, 2)
	headsAre(t, g, 4)
	headsAre(t, g, 5, 2, 3, 4)
	// The heads of its heads are none of its own.
	g = read(t, "a <- b b <- c c <- a 'x'")
	headsAre(t, g, 0, 1)
	headsAre(t, g, 1, 2)
	headsAre(t, g, 2, 0)
	// A rule that may match nothing lets what stands behind it begin; one that may not does not.
	g = read(t, "a <- b c d b <- 'x'? c <- b b d <- 'y' e <- d c b")
	headsAre(t, g, 0, 1, 2, 3)
	headsAre(t, g, 4, 3)
	headsAre(t, read(t, "'a' 'b'"), 0)
}

// F2: parts within parts.
func TestHeadsOfDeepParts(t *testing.T) {
	g := read(t, "s <- ((a^0 b?)^-3 (c / !d e))^+2 f a <- 'a' b <- 'b' c <- 'c' d <- 'd' e <- 'e' f <- 'f'")
	headsAre(t, g, 0, 2, 3, 4, 5)
	g = read(t, "s <- ((a^0 b?)^-3 (c / !d e?))^+0 f a <- 'a' b <- 'b' c <- 'c' d <- 'd' e <- 'e' f <- 'f'")
	headsAre(t, g, 0, 2, 3, 4, 5, 6)
	g = read(t, "s <- ((a b)^0 c)^-0 (d e) f a <- 'a' b <- 'b' c <- 'c' d <- %e e <- !d f <- 'f'")
	headsAre(t, g, 0, 4, 5, 6)
}

// F2: several loops, in several rules.
func TestLoops(t *testing.T) {
	loopsAre(t, read(t, "'a'* 'b'+ 'c'^+2 'd'^+0"))
	loopsAre(t, read(t, "s <- ''* ''+ 'a'*"), api.Spot{Node: 1}, api.Spot{Node: 3})
	loopsAre(t, read(t, "a <- 'x' / ''^+0 b <- 'y' c <- ((b?)* / d)+ d <- !a*"), api.Spot{Rule: 0, Node: 2}, api.Spot{Rule: 2, Node: 2}, api.Spot{Rule: 2, Node: 5}, api.Spot{Rule: 3, Node: 1})
	loopsAre(t, read(t, "(((''*)+)^+3)^+0"), api.Spot{Node: 1}, api.Spot{Node: 2}, api.Spot{Node: 3}, api.Spot{Node: 4})
	// What is never come to, and what stands behind a rule that begins with itself, is a loop all the same.
	loopsAre(t, read(t, "s <- s (''*)^0 / %f ''+"), api.Spot{Node: 2}, api.Spot{Node: 7})
	// PTimes and PMost are no loops, whatever they repeat.
	loopsAre(t, read(t, "''^3 ''^-3 ''? ''^50"))
}

// F3: again and again the least rule whose heads are told.
func TestOrder(t *testing.T) {
	orderIs(t, "'a'", 0)
	orderIs(t, "a <- 'x' b <- 'y' c <- 'z'", 0, 1, 2)
	orderIs(t, "a <- 'x' b <- a c <- b", 0, 1, 2)
	orderIs(t, "a <- b c b <- 'x' c <- 'y'", 1, 0, 2)
	orderIs(t, "a <- c b <- 'x' c <- 'y' d <- 'z'", 1, 2, 0, 3)
	orderIs(t, "a <- d b <- a c <- 'x' d <- 'y' e <- b / c", 2, 3, 0, 1, 4)
	orderIs(t, "a <- e b <- d c <- b / a d <- 'x' e <- d", 3, 1, 4, 0, 2)
	orderIs(t, "a <- b 'x' b <- 'y' a / c c <- a^0 'z' b", 2, 1, 0)
	orderIs(t, "e <- t ('+' t)* t <- f ('*' f)* f <- [0-9]+ / '(' e ')'", 2, 1, 0)
}
