package empty_test

import (
	"strconv"
	"testing"

	"harrow/api"
	"harrow/empty"
)

func partsKnown(t *testing.T, g api.Grammar, r int, want ...string) {
	t.Helper()
	l, e := empty.Parts(g, r)
	if e != api.OK || len(l) != len(want) {
		t.Fatalf("Parts(%d): %v, %v, want %v", r, l, e, want)
	}
	for at := range want {
		if told(l[at]) != want[at] {
			t.Errorf("Parts(%d) at %d: %s, want %s", r, at, told(l[at]), want[at])
		}
	}
}

func ofKnown(t *testing.T, g api.Grammar, text, want string) {
	t.Helper()
	if x, e := empty.Of(g, readPattern(t, text)); told(x) != want || e != api.OK {
		t.Errorf("Of(%s): %s, %v, want %s", text, told(x), e, want)
	}
}

// 9.1, 9.2: a pattern alone is one rule, which none can call.
func TestPatternAlone(t *testing.T) {
	for text, want := range map[string]string{"'a'* 'b'": "f 1 many", "%e": "n 0 0", "%f": "f none 0", ".?": "n 0 1", "&.": "nf 0 0", "{'ab'} / 'c'": "f 1 2"} {
		g := read(t, text)
		if g.Rules[0].Name != "" {
			t.Fatal(g)
		}
		rulesKnown(t, g, want)
		ofKnown(t, g, "'x' 'y'", "f 2 2")
	}
	partsKnown(t, read(t, "'a'* 'b'"), 0, "f 1 1", "n 0 many", "f 1 1", "f 1 many")
}

// 9.1: rules that call none, one, and several others, ahead of them and behind them.
func TestRulesThatCallOthers(t *testing.T) {
	rulesKnown(t, read(t, "a <- 'x' b <- %e c <- %f d <- .* e <- !. f <- 'xy'?"), "f 1 1", "n 0 0", "f none 0", "n 0 many", "nf 0 0", "n 0 2")
	rulesKnown(t, read(t, "a <- b b <- c c <- 'xyz'"), "f 3 3", "f 3 3", "f 3 3")
	rulesKnown(t, read(t, "c <- 'xyz' b <- c a <- b"), "f 3 3", "f 3 3", "f 3 3")
	rulesKnown(t, read(t, "a <- b c / d b <- 'x' c <- 'y'? d <- c b b"), "f 1 3", "f 1 1", "n 0 1", "f 2 3")
	rulesKnown(t, read(t, "a <- b* c b <- c d c <- 'y'+ d <- %f"), "f 1 many", "f none many", "f 1 many", "f none 0")
	rulesKnown(t, read(t, "a <- &b !c {d} b <- 'x' c <- %e d <- b^3 / c"), "nf 0 3", "f 1 1", "n 0 0", "n 0 3")
	// A rule that nothing comes to is told as all others.
	rulesKnown(t, read(t, "a <- 'x' b <- a 'y' c <- c"), "f 1 1", "f 2 2", "- none many")
}

// 9.1: rules that call themselves: what is true only by itself is not true, and what is long only by itself has no length.
func TestRulesThatCallThemselves(t *testing.T) {
	rulesKnown(t, read(t, "s <- s"), "- none many")
	rulesKnown(t, read(t, "s <- s s"), "- none many")
	rulesKnown(t, read(t, "s <- s / s"), "- none many")
	rulesKnown(t, read(t, "s <- s / 'ab'"), "- 2 many")
	rulesKnown(t, read(t, "s <- 'ab' / s"), "- 2 many")
	rulesKnown(t, read(t, "s <- s 'a'"), "f none many")
	rulesKnown(t, read(t, "s <- 'a' s"), "f none many")
	rulesKnown(t, read(t, "s <- s / %e"), "n 0 many")
	rulesKnown(t, read(t, "s <- s %e"), "- none many")
	rulesKnown(t, read(t, "s <- 'a' s / 'bcd'"), "f 3 many")
	rulesKnown(t, read(t, "s <- 'a' s 'b' / 'c' s / 'defgh'"), "f 5 many")
	rulesKnown(t, read(t, "s <- s?"), "n 0 many")
	rulesKnown(t, read(t, "s <- s* 'a'"), "f 1 many")
	rulesKnown(t, read(t, "s <- s+"), "- none many")
	rulesKnown(t, read(t, "s <- {s}"), "- none many")
	rulesKnown(t, read(t, "s <- s^2 / 'ab'"), "- 2 many")
	rulesKnown(t, read(t, "s <- s^+1 / 'ab'"), "- 2 many")
	rulesKnown(t, read(t, "s <- s^-2"), "n 0 many")
}

// 9.1, 9.4: Most is no bound of each rule that comes to itself, whatever the table says of its pattern; its parts are by the table.
func TestMostOfRulesThatComeToThemselves(t *testing.T) {
	for text, want := range map[string]string{"s <- &s": "n 0 0", "s <- !s": "nf 0 0", "s <- s^0": "n 0 0", "s <- s^-0": "n 0 0", "s <- !s 'ab'": "f 2 2", "s <- &s 'a'?": "n 0 1", "s <- 'abc' / !s": "nf 0 3", "s <- s^0 'a'": "f 1 1"} {
		g := read(t, text)
		parts, _ := empty.Parts(g, 0)
		if last := told(parts[len(parts)-1]); last != want {
			t.Errorf("%s: the last of its Parts: %s, want %s", text, last, want)
		}
		if x, e := empty.Of(g, g.Rules[0].Body); told(x) != want || e != api.OK {
			t.Errorf("%s: Of its pattern: %s, %v, want %s", text, told(x), e, want)
		}
		x := parts[len(parts)-1]
		x.Most = -1
		rulesKnown(t, g, told(x))
		ofKnown(t, g, "s", told(x))
		ofKnown(t, g, "!s", "nf 0 0")
	}
	// A rule that calls such a one has its bound by the table: it has none, unless what it calls counts for nothing.
	rulesKnown(t, read(t, "s <- !s 'a' t <- s u <- t 'b' v <- &t 'b' w <- t^0 'cd' x <- t?"), "f 1 many", "f 1 many", "f 2 many", "f 1 1", "f 2 2", "n 0 many")
	rulesKnown(t, read(t, "s <- !t 'a' t <- &s 'bc' u <- s t"), "f 1 many", "f 2 many", "f 3 many")
	partsKnown(t, read(t, "s <- !t 'a' t <- &s 'bc'"), 0, "f 2 many", "nf 0 0", "f 1 1", "f 1 1")
}

// 9.1: rules that call one another in rings, and rings that call rings.
func TestRings(t *testing.T) {
	rulesKnown(t, read(t, "a <- b b <- a"), "- none many", "- none many")
	rulesKnown(t, read(t, "a <- 'x' b b <- 'y' a"), "f none many", "f none many")
	rulesKnown(t, read(t, "a <- 'x' b b <- 'y' a / 'zzz'"), "f 4 many", "f 3 many")
	rulesKnown(t, read(t, "a <- 'x' b b <- 'y' a / %e"), "f 1 many", "n 0 many")
	rulesKnown(t, read(t, "a <- b c / 'xx' b <- c / a c <- a 'y'"), "f 2 many", "f 2 many", "f 3 many")
	rulesKnown(t, read(t, "a <- b b <- c c <- a / %e"), "n 0 many", "n 0 many", "n 0 many")
	rulesKnown(t, read(t, "a <- b / c b <- c a c <- a b"), "- none many", "- none many", "- none many")
	rulesKnown(t, read(t, "a <- b 'x' b <- c 'x' c <- d 'x' d <- e 'x' e <- a 'x' / 'y'"), "f 5 many", "f 4 many", "f 3 many", "f 2 many", "f 1 many")
	// A ring of two that calls a ring of three that calls a rule that calls itself.
	rulesKnown(t, read(t, "a <- b 'x' b <- 'y' a / c d c <- 'p' d d <- e / 'qq' e <- c / f f <- 'f' f / %e"), "f 2 many", "f 1 many", "f 1 many", "n 0 many", "n 0 many", "n 0 many")
	rulesKnown(t, read(t, "a <- b 'x' b <- 'y' a / c d c <- 'p' d d <- e 'r' / 'qq' e <- c / f f <- 'f' f / 'f'"), "f 6 many", "f 5 many", "f 3 many", "f 2 many", "f 1 many", "f 1 many")
}

func ring(n int, last string) api.Grammar {
	var g api.Grammar
	for r := range n {
		next := call(nameOf((r + 1) % n))
		p := list(lit("x"), next, op(api.PSeq))
		if r == n-1 && last != "" {
			p = append(p, lit(last), op(api.PChoice))
		}
		g.Rules = append(g.Rules, rule(nameOf(r), p...))
	}
	return g
}

// 9.1: rings of any size, up to all rules that a grammar may have.
func TestLongRings(t *testing.T) {
	for _, n := range []int{1, 2, 3, 7, 50, 199, 200} {
		l, e := empty.Rules(ring(n, ""))
		short, f := empty.Rules(ring(n, times("y", n)))
		if e != api.OK || f != api.OK || len(l) != n || len(short) != n {
			t.Fatal(n, e, f)
		}
		for r := range n {
			if told(l[r]) != "f none many" {
				t.Errorf("a ring of %d, %d: %s", n, r, told(l[r]))
			}
			if want := "f " + strconv.Itoa(2*n-1-r) + " many"; told(short[r]) != want {
				t.Errorf("a ring of %d with an end, %d: %s, want %s", n, r, told(short[r]), want)
			}
		}
	}
}

// 9.1: what is known only after many rounds: rows of rules, each of which calls the next one, or the one ahead.
func TestRowsOfRules(t *testing.T) {
	for _, n := range []int{2, 3, 10, 200} {
		var ahead, behind api.Grammar
		for r := range n {
			p, q := list(lit("x"), call(nameOf(r+1)), op(api.PSeq)), list(call(nameOf(r-1)), lit("x"), op(api.PSeq))
			if r == n-1 {
				p = list(lit("xx"), op(api.POpt))
			}
			if r == 0 {
				q = list(lit("xx"), op(api.POpt))
			}
			ahead.Rules = append(ahead.Rules, rule(nameOf(r), p...))
			behind.Rules = append(behind.Rules, rule(nameOf(r), q...))
		}
		var first, second []string
		for r := range n {
			first = append(first, rowKnown(n-1-r))
			second = append(second, rowKnown(r))
		}
		rulesKnown(t, ahead, first...)
		rulesKnown(t, behind, second...)
	}
}

func rowKnown(bytes int) string {
	return told(api.Emptiness{Nullable: bytes == 0, CanFail: bytes > 0, Least: bytes, Most: bytes + 2})
}

// 9.1: a Least that is found, and then found to be less, again and again.
func TestLeastBecomesLess(t *testing.T) {
	rulesKnown(t, read(t, "s <- 'aaaaaaaaa' / t t <- 'aaaaaaa' / u u <- 'aaaaa' / v v <- 'aaa' / w w <- 'a'"), "f 1 9", "f 1 7", "f 1 5", "f 1 3", "f 1 1")
	rulesKnown(t, read(t, "s <- 'aaaaaaaaa' / t 'x' t <- 'aaaaaaa' / u 'x' u <- 'aaaaa' / v 'x' v <- 'aaa' / w 'x' w <- 'a'"), "f 5 9", "f 4 7", "f 3 5", "f 2 3", "f 1 1")
	rulesKnown(t, read(t, "s <- t t / 'aaaaaaaaa' t <- s 'x' / u u u <- 'aaa' / v v <- t / 'y'"), "- 4 many", "- 2 many", "- 1 many", "- 1 many")
	rulesKnown(t, read(t, "s <- t t / 'aaaaaaaaa' t <- s 'x' / u u u <- 'aaa' / v v <- t / %e"), "n 0 many", "n 0 many", "n 0 many", "n 0 many")
	// Nullable and CanFail, likewise, come through rules that come to one another.
	rulesKnown(t, read(t, "s <- t t <- u s / u u <- v v <- u / w w <- %e"), "n 0 many", "n 0 many", "n 0 many", "n 0 many", "n 0 0")
	rulesKnown(t, read(t, "s <- t t <- u s u <- v v <- u w w <- !'x'"), "f none many", "f none many", "f none many", "f none many", "nf 0 0")
	rulesKnown(t, read(t, "s <- t t <- u s / 'x' u <- v v <- u / w w <- 'y'"), "- 1 many", "- 1 many", "- 1 many", "- 1 many", "f 1 1")
}

func reordered(g api.Grammar, order []int) api.Grammar {
	var h api.Grammar
	for _, r := range order {
		h.Rules = append(h.Rules, g.Rules[r])
	}
	return h
}

// 9.1: the same rules in other orders.
func TestOtherOrders(t *testing.T) {
	x := newScramble()
	grammars := []api.Grammar{
		read(t, "a <- b 'x' b <- 'y' a / c d c <- 'p' d d <- e 'r' / 'qq' e <- c / f f <- 'f' f / 'f'"),
		read(t, "s <- 'aaaaaaaaa' / t 'x' t <- 'aaaaaaa' / u 'x' u <- 'aaaaa' / v 'x' v <- 'aaa' / w 'x' w <- 'a'"),
		read(t, "s <- !s 'a' t <- s u <- t 'b' v <- &t 'b' w <- t^0 'cd' x <- t?"),
	}
	for i := range 40 {
		grammars = append(grammars, x.grammar(2+i%12, 8, 51))
	}
	for _, g := range grammars {
		want, e := empty.Rules(g)
		if e != api.OK {
			t.Fatal(e)
		}
		for range 30 {
			order := x.order(len(g.Rules))
			l, e := empty.Rules(reordered(g, order))
			if e != api.OK || len(l) != len(order) {
				t.Fatal(l, e)
			}
			for at, r := range order {
				if l[at] != want[r] {
					t.Fatalf("%v in the order %v: of %d %s, want %s", g, order, r, told(l[at]), told(want[r]))
				}
			}
		}
	}
}

// 9.2: the parts of a rule's pattern, in order.
func TestParts(t *testing.T) {
	g := read(t, "s <- 'a' s / %e t <- 'ab'^2 'c'? u <- u 'a'")
	partsKnown(t, g, 0, "f 1 1", "n 0 many", "f 1 many", "n 0 0", "n 0 many")
	partsKnown(t, g, 1, "f 2 2", "f 4 4", "f 1 1", "n 0 1", "f 4 5")
	partsKnown(t, g, 2, "f none many", "f 1 1", "f none many")
	partsKnown(t, read(t, "."), 0, "f 1 1")
	g = read(t, "s <- {t* !.} / &u -> 'x' t <- 'ab' u <- %f")
	partsKnown(t, g, 0, "f 2 2", "n 0 many", "f 1 1", "nf 0 0", "nf 0 many", "nf 0 many", "f none 0", "f none 0", "nf 0 0", "nf 0 many")
}

// 9.2: patterns beside the grammar, that call its rules.
func TestOfWithRules(t *testing.T) {
	g := read(t, "s <- 'a' s / %e t <- 'ab'^2 'c'? u <- u 'a'")
	ofKnown(t, g, "s", "n 0 many")
	ofKnown(t, g, "t", "f 4 5")
	ofKnown(t, g, "u", "f none many")
	ofKnown(t, g, "t t / s", "n 0 many")
	ofKnown(t, g, "t^3 'x'", "f 13 16")
	ofKnown(t, g, "u / t", "f 4 many")
	ofKnown(t, g, "(u / 'x')?", "n 0 many")
	ofKnown(t, g, "!u &t", "nf 0 0")
	ofKnown(t, g, "u* s", "n 0 many")
	ofKnown(t, g, "{:s: t :}", "f 4 5")
	ofKnown(t, g, "'s'", "f 1 1")
}

// 9.1, 9.2: as many rules as a grammar may have, and as many nodes.
func TestLargestGrammars(t *testing.T) {
	g := ring(200, "")
	for r := range g.Rules {
		for len(g.Rules[r].Body) < 9 {
			g.Rules[r].Body = append(g.Rules[r].Body, lit("yz"), op(api.PChoice))
		}
	}
	g.Rules[7].Body = append(g.Rules[7].Body, row(api.PSeq, 123, op(api.PAny))...)
	g.Rules[7].Body = append(g.Rules[7].Body, op(api.PSeq))
	nodes := 0
	for _, x := range g.Rules {
		nodes += len(x.Body)
	}
	if nodes != api.MaxNodes || len(g.Rules) != api.MaxRules {
		t.Fatal(nodes, len(g.Rules))
	}
	asModel(t, g, byRounds(g))
	whole := append(row(api.PSeq, 1023, op(api.PAny)), op(api.POpt))
	if x, e := empty.Of(g, whole); told(x) != "n 0 1024" || e != api.OK || len(whole) != api.MaxNodes {
		t.Error(told(x), e)
	}
	alone := grammar(rule("", whole...))
	rulesKnown(t, alone, "n 0 1024")
	parts, e := empty.Parts(alone, 0)
	if e != api.OK || len(parts) != api.MaxNodes || told(parts[2046]) != "f 1024 1024" || told(parts[2047]) != "n 0 1024" {
		t.Error(len(parts), e)
	}
	// The longest row of rules, each with as many calls of the next one as there is room for.
	var long api.Grammar
	for r := range 199 {
		long.Rules = append(long.Rules, rule(nameOf(r), row(api.PSeq, 4, call(nameOf(r+1)))...))
	}
	long.Rules = append(long.Rules, rule(nameOf(199), lit("a")))
	l, e := empty.Rules(long)
	if e != api.OK || told(l[199]) != "f 1 1" || told(l[198]) != "f 5 5" || told(l[197]) != "f 25 25" || told(l[191]) != "f 390625 390625" || told(l[190]) != "f 1048576 many" || told(l[0]) != "f 1048576 many" {
		t.Error(l, e)
	}
}

// 9.1, 9.2: grammars of all sorts, small ones by going into their rules, greater ones by rounds.
func TestScrambledGrammars(t *testing.T) {
	x := newScramble()
	for i := range 3000 {
		g := x.grammar(1+i%5, 1+i%9, 51)
		asModel(t, g, byOpenRules(g))
	}
	for i := range 300 {
		g := x.grammar(6+i%20, 1+i%12, 51)
		asModel(t, g, byRounds(g))
	}
	for _, size := range []int{1, 3, 6, 9} {
		g := x.grammar(200, size, 51)
		asModel(t, g, byRounds(g))
	}
}

// 9.1: all grammars of two rules, each of which is a node above two leaves.
func TestAllSmallGrammars(t *testing.T) {
	var bodies []api.Pattern
	leaves := list(op(api.PEmpty), op(api.PFail), lit("ab"), call("a"), call("b"))
	for _, first := range leaves {
		for _, second := range leaves {
			bodies = append(bodies, list(first, second, op(api.PSeq)), list(first, second, op(api.PChoice)), list(first, op(api.PNot), second, op(api.PSeq)), list(first, op(api.PPlus), second, op(api.PChoice)))
		}
	}
	for _, p := range bodies {
		for _, q := range bodies {
			g := grammar(rule("a", p...), rule("b", q...))
			m := byOpenRules(g)
			l, e := empty.Rules(g)
			if e != api.OK || len(l) != 2 || l[0] != m("a").known() || l[1] != m("b").known() {
				t.Fatalf("Rules(%v): %v, %v, want %v, %v", g, l, e, m("a").known(), m("b").known())
			}
		}
	}
}
