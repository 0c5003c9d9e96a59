package first_test

import (
	"slices"
	"testing"

	"harrow/api"
	"harrow/first"
)

// rulesKnown holds Rules against what is written down, and the model against it, too.
func rulesKnown(t *testing.T, g api.Grammar, want ...string) {
	t.Helper()
	l, e := first.Rules(g)
	if e != api.OK || len(l) != len(want) || len(l) != len(g.Rules) {
		t.Fatalf("Rules of %d rules: %v, %v", len(g.Rules), l, e)
	}
	m := modelOf(g)
	for r, x := range g.Rules {
		if told(l[r]) != want[r] {
			t.Errorf("Rules(%s): of %s %s, want %s", text(g), x.Name, told(l[r]), want[r])
		}
		if got := told(m.whole(x.Body)); got != want[r] {
			t.Errorf("the model of %s: of %s %s, want %s", text(g), x.Name, got, want[r])
		}
	}
}

func textsKnown(t *testing.T, text string, want ...string) {
	t.Helper()
	rulesKnown(t, read(t, text), want...)
}

func ofKnown(t *testing.T, g api.Grammar, text, want string) {
	t.Helper()
	if x, e := first.Of(g, readPattern(t, text)); told(x) != want || e != api.OK {
		t.Errorf("Of(%s): %s, %v, want %s", text, told(x), e, want)
	}
}

func partsKnown(t *testing.T, g api.Grammar, r int, want ...string) {
	t.Helper()
	l, e := first.Parts(g, r)
	if e != api.OK || len(l) != len(want) {
		t.Fatalf("Parts(%s, %d): %v, %v, want %v", text(g), r, l, e, want)
	}
	for at := range want {
		if told(l[at]) != want[at] {
			t.Errorf("Parts(%s, %d) at %d: %s, want %s", text(g), r, at, told(l[at]), want[at])
		}
	}
}

// 11.1, 11.2: a pattern alone is one rule, which none can call.
func TestPatternAlone(t *testing.T) {
	for text, want := range map[string]string{"'a'* 'b'": "[ab] -", "%e": "[] e", "%f": "[] h", ".?": "[^] e", "&.": "[^] h", "{'ab'} / 'c'": "[ac] -"} {
		g := read(t, text)
		if g.Rules[0].Name != "" {
			t.Fatal(g)
		}
		rulesKnown(t, g, want)
		ofKnown(t, g, "'x' 'y'*", "[x] h")
	}
	partsKnown(t, read(t, "'a'* 'b'"), 0, "[a] h", "[a] e", "[b] h", "[ab] -")
}

// 11.1: rules that call none, one, and several others, ahead of them and behind them.
func TestRulesThatCallOthers(t *testing.T) {
	textsKnown(t, "a <- 'x' b <- %e c <- %f d <- .* e <- !. f <- 'xy'?", "[x] h", "[] e", "[] h", "[^] e", "[] e", "[x] e")
	textsKnown(t, "a <- b b <- c c <- [xyz]", "[x-z] h", "[x-z] h", "[x-z] h")
	textsKnown(t, "c <- [xyz] b <- c a <- b", "[x-z] h", "[x-z] h", "[x-z] h")
	textsKnown(t, "a <- b c / d b <- 'x' c <- 'y'? d <- c b b", "[xy] -", "[x] h", "[y] e", "[xy] -")
	textsKnown(t, "a <- b c b <- 'x' c <- 'y'? d <- b / 'z'", "[x] h", "[x] h", "[y] e", "[xz] h")
	textsKnown(t, "a <- b* c b <- c d c <- 'y'+ d <- %f", "[y] -", "[y] -", "[y] h", "[] h")
	textsKnown(t, "a <- &b !c {d} b <- 'x' c <- %e d <- b^3 / c", "[x] -", "[x] h", "[] e", "[x] e")
	// A rule that nothing comes to is told as all others.
	textsKnown(t, "a <- 'x' b <- a 'y' c <- c d <- b 'z'?", "[x] h", "[x] -", "[] -", "[x] -")
}

// 11.1: whether the second part of a sequence can fail is what layer 9 says in the end, however late it is told there.
func TestSecondPartsThatCallRules(t *testing.T) {
	textsKnown(t, "s <- 'a' t t <- u u <- v v <- 'x'", "[a] -", "[x] h", "[x] h", "[x] h")
	textsKnown(t, "s <- 'a' t t <- u u <- v v <- 'x'?", "[a] h", "[x] e", "[x] e", "[x] e")
	textsKnown(t, "v <- 'x' u <- v t <- u s <- 'a' t", "[x] h", "[x] h", "[x] h", "[a] -")
	textsKnown(t, "s <- 'a' t t <- t", "[a] h", "[] -")
	textsKnown(t, "s <- 'a' t t <- t 'x'", "[a] -", "[] -")
	textsKnown(t, "s <- 'a' t t <- t / 'x'", "[a] h", "[x] -")
	textsKnown(t, "s <- 'a' t t <- 'x' t / %e", "[a] h", "[x] e")
	textsKnown(t, "s <- 'a' t t <- 'x' t", "[a] -", "[x] -")
	textsKnown(t, "s <- 'a' t t <- &u u <- 'x'?", "[a] h", "[x] e", "[x] e")
	textsKnown(t, "s <- 'a' t t <- !u u <- 'x'?", "[a] -", "[] e", "[x] e")
}

// 11.1: rules that call themselves: what is so only by itself is not so.
func TestRulesThatCallThemselves(t *testing.T) {
	textsKnown(t, "s <- s", "[] -")
	textsKnown(t, "s <- s s", "[] -")
	textsKnown(t, "s <- s / s", "[] -")
	textsKnown(t, "s <- s+", "[] -")
	textsKnown(t, "s <- {s}", "[] -")
	textsKnown(t, "s <- &s", "[] -")
	textsKnown(t, "s <- s %e", "[] -")
	textsKnown(t, "s <- s^1", "[] -")
	textsKnown(t, "s <- s 'a'", "[] -")
	textsKnown(t, "s <- &s 'a'", "[] -")
	textsKnown(t, "s <- s / 'a'", "[a] -")
	textsKnown(t, "s <- 'a' / s", "[a] -")
	textsKnown(t, "s <- s^1 / 'a'", "[a] -")
	textsKnown(t, "s <- {s} / [ab]", "[ab] -")
	textsKnown(t, "s <- s / %f", "[] -")
	textsKnown(t, "s <- s / .", "[^] -")
	textsKnown(t, "s <- 'a' s", "[a] -")
	textsKnown(t, "s <- 'a' s / 'b'", "[ab] -")
	textsKnown(t, "s <- 'a' s?", "[a] h")
	textsKnown(t, "s <- 'a' s*", "[a] h")
	textsKnown(t, "s <- 'a' s* / 'b'", "[ab] h")
	textsKnown(t, "s <- 'a' s^0", "[a] h")
	textsKnown(t, "s <- 'a' !s", "[a] -")
	textsKnown(t, "s <- 'a' &s", "[a] -")
	textsKnown(t, "s <- 'a' s / %e", "[a] e")
	textsKnown(t, "s <- s / %e", "[] e")
	textsKnown(t, "s <- s?", "[] e")
	textsKnown(t, "s <- s^-2", "[] e")
	textsKnown(t, "s <- s^+0", "[] e")
	textsKnown(t, "s <- s^0", "[] e")
	textsKnown(t, "s <- !s", "[] e")
	textsKnown(t, "s <- !s 'a'", "[a] -")
	textsKnown(t, "s <- s^0 'a'", "[a] -")
	textsKnown(t, "s <- s* 'a'", "[a] -")
	textsKnown(t, "s <- s? 'a' / 'b'", "[ab] -")
	// What begins behind itself begins with what stands there, once it is known that it may be Empty.
	textsKnown(t, "s <- s 'a' / %e", "[a] e")
	textsKnown(t, "s <- %e / s 'a'", "[a] e")
	textsKnown(t, "s <- s s / %e 'c'?", "[c] e")
	textsKnown(t, "s <- s s 'a' / %e", "[a] e")
	textsKnown(t, "s <- &s 'a' / %e", "[a] e")
	textsKnown(t, "s <- s 'a' / 'b'?", "[ab] e")
}

// 11.1: rules that call one another in rings of two, three and more, and rings that call rings; well formed or not.
func TestRings(t *testing.T) {
	textsKnown(t, "a <- b b <- a", "[] -", "[] -")
	textsKnown(t, "a <- b b <- c c <- a", "[] -", "[] -", "[] -")
	textsKnown(t, "a <- b 'x' b <- a 'y'", "[] -", "[] -")
	textsKnown(t, "a <- 'x' b b <- 'y' a", "[x] -", "[y] -")
	textsKnown(t, "a <- 'x' b b <- 'y' a / 'z'", "[x] -", "[yz] -")
	textsKnown(t, "a <- 'x' b b <- 'y' a / %e", "[x] h", "[y] e")
	textsKnown(t, "a <- 'x' b? b <- 'y' a?", "[x] h", "[y] h")
	textsKnown(t, "a <- b / 'x' b <- a / 'y'", "[xy] -", "[xy] -")
	textsKnown(t, "a <- b / 'x' b <- c / 'y' c <- a / 'z'", "[x-z] -", "[x-z] -", "[x-z] -")
	textsKnown(t, "a <- b b <- c c <- a / %e", "[] e", "[] e", "[] e")
	textsKnown(t, "a <- b 'x' b <- c? c <- a / 'y'", "[xy] -", "[xy] e", "[xy] -")
	textsKnown(t, "a <- b 'x' b <- c 'y' c <- a 'z' / %e", "[y] -", "[y] -", "[y] e")
	textsKnown(t, "a <- b c / 'x' b <- c / a c <- a 'y'", "[x] -", "[x] -", "[x] -")
	textsKnown(t, "a <- b / c b <- c a c <- a b", "[] -", "[] -", "[] -")
	textsKnown(t, "a <- b 'v' b <- c 'w' c <- d 'x' d <- e 'y' e <- a 'z' / 'u'", "[u] -", "[u] -", "[u] -", "[u] -", "[u] -")
	textsKnown(t, "a <- b 'v' b <- c 'w' c <- d 'x' d <- e 'y' e <- a 'z' / 'u'?", "[uy] -", "[uy] -", "[uy] -", "[uy] -", "[uy] e")
	// A ring of two that calls a ring of three that calls a rule that calls itself.
	textsKnown(t, "a <- b 'x' b <- 'y' a / c d c <- 'p' d d <- e / 'qq' e <- c / f f <- 'f' f / %e", "[py] -", "[py] -", "[p] h", "[fpq] e", "[fp] e", "[f] e")
	textsKnown(t, "a <- b* 'x' b <- 'y' a / c d c <- 'p'? d d <- e 'r' / 'qq' e <- c / f f <- 'f' f / 'g'", "[fgpqxy] -", "[fgpqy] -", "[fgpq] -", "[fgpq] -", "[fgpq] -", "[fg] -")
}

// Rules that each call the next one; the last one has a pattern of its own.
func chain(n int, last ...api.Node) api.Grammar {
	var g api.Grammar
	for r := range n - 1 {
		g.Rules = append(g.Rules, rule(nameOf(r), call(nameOf(r+1))))
	}
	g.Rules = append(g.Rules, rule(nameOf(n-1), last...))
	return g
}

func reversed(g api.Grammar) api.Grammar {
	h := api.Grammar{Rules: slices.Clone(g.Rules)}
	slices.Reverse(h.Rules)
	return h
}

// 11.1: what is known only after as many rounds as there are rules, and after twice as many: that the last rule begins with what stands in it behind the first one is known once it is known that the first one is Empty, and goes all the way again.
func TestKnownAfterManyRounds(t *testing.T) {
	for _, n := range []int{1, 2, 3, 5, 10, 199, 200} {
		head := call(nameOf(0))
		for want, last := range map[string]api.Pattern{
			"[a] h": list(lit("a")),
			"[a] -": list(lit("ab")),
			"[] h":  list(op(api.PFail)),
			"[] e":  list(op(api.PEmpty)),
			"[] -":  list(head),
			"[b] e": list(head, lit("b"), op(api.PSeq), op(api.PEmpty), op(api.PChoice)),
			"[c] e": list(head, lit("c"), op(api.PSeq), op(api.POpt)),
			"[d] -": list(head, lit("d"), op(api.PChoice)),
		} {
			all := slices.Repeat([]string{want}, n)
			rulesKnown(t, chain(n, last...), all...)
			rulesKnown(t, reversed(chain(n, last...)), all...)
		}
	}
}

// 11.1: what each rule of a long ring begins with besides goes round it to all.
func TestWhatGoesRound(t *testing.T) {
	for _, n := range []int{2, 3, 50, 200} {
		g := chain(n, call(nameOf(0)))
		var all api.Set
		for r := range g.Rules {
			b := r * 7 % 256
			all[b/64] |= 1 << (b % 64)
			g.Rules[r].Body = append(g.Rules[r].Body, lit(string([]byte{byte(b)})), op(api.PChoice))
		}
		for _, h := range []api.Grammar{g, reversed(g)} {
			l, e := first.Rules(h)
			if e != api.OK || len(l) != n {
				t.Fatal(l, e)
			}
			for r, x := range l {
				if x != (api.Firsts{Set: all}) {
					t.Errorf("%d of %d: %s", r, n, told(x))
				}
			}
		}
		// An end of the ring: from there on forward each rule has what stands ahead of it no more.
		g.Rules[n-1].Body = list(lit("z"))
		asModel(t, g)
		asModel(t, reversed(g))
	}
}

// 11.1: the same rules in other orders.
func TestOtherOrders(t *testing.T) {
	x := newScramble()
	grammars := []api.Grammar{
		read(t, "a <- b 'x' b <- 'y' a / c d c <- 'p' d d <- e / 'qq' e <- c / f f <- 'f' f / %e"),
		read(t, "a <- b 'v' b <- c 'w' c <- d 'x' d <- e 'y' e <- a 'z' / 'u'?"),
		read(t, "s <- 'a' t t <- u u <- v v <- 'x'? w <- s t x <- w / s"),
		read(t, "a <- b / 'x' b <- c / 'y' c <- a / 'z' d <- a 'q'*"),
	}
	for i := range 60 {
		grammars = append(grammars, x.grammar(2+i%12, 8))
	}
	for _, g := range grammars {
		want, e := first.Rules(g)
		if e != api.OK {
			t.Fatal(e)
		}
		for range 30 {
			var h api.Grammar
			order := x.order(len(g.Rules))
			for _, r := range order {
				h.Rules = append(h.Rules, g.Rules[r])
			}
			l, e := first.Rules(h)
			if e != api.OK || len(l) != len(order) {
				t.Fatal(l, e)
			}
			for at, r := range order {
				if l[at] != want[r] {
					t.Fatalf("%s in the order %v: of %d %s, want %s", text(g), order, r, told(l[at]), told(want[r]))
				}
			}
		}
	}
}

// 11.1: the parts of a rule's pattern, in order.
func TestParts(t *testing.T) {
	g := read(t, "s <- 'x' s / %e t <- 'ab'^2 'c'? u <- u 'a'")
	partsKnown(t, g, 0, "[x] h", "[x] e", "[x] h", "[] e", "[x] e")
	partsKnown(t, g, 1, "[a] -", "[a] -", "[c] h", "[c] e", "[a] -")
	partsKnown(t, g, 2, "[] -", "[a] h", "[] -")
	partsKnown(t, read(t, "."), 0, "[^] h")
	g = read(t, "s <- {t* !.} / &u -> 'x' t <- 'ab' u <- [0-9]")
	partsKnown(t, g, 0, "[a] -", "[a] e", "[^] h", "[] e", "[a] e", "[a] e", "[0-9] h", "[0-9] h", "[0-9] h", "[0-9a] e")
	partsKnown(t, g, 1, "[a] -")
	partsKnown(t, g, 2, "[0-9] h")
}

// 11.2: patterns beside the grammar, that call its rules.
func TestOfWithRules(t *testing.T) {
	g := read(t, "s <- 'x' s / %e t <- 'ab'^2 'c'? u <- u 'a' d <- [0-9]")
	ofKnown(t, g, "s", "[x] e")
	ofKnown(t, g, "t", "[a] -")
	ofKnown(t, g, "u", "[] -")
	ofKnown(t, g, "d", "[0-9] h")
	ofKnown(t, g, "s d", "[0-9x] -")
	ofKnown(t, g, "d s", "[0-9] h")
	ofKnown(t, g, "d t", "[0-9] -")
	ofKnown(t, g, "d u", "[0-9] -")
	ofKnown(t, g, "s s / t", "[ax] e")
	ofKnown(t, g, "u / d", "[0-9] -")
	ofKnown(t, g, "d / 'q'", "[0-9q] h")
	ofKnown(t, g, "d+ s", "[0-9] h")
	ofKnown(t, g, "!t &d", "[0-9] -")
	ofKnown(t, g, "{:s: d :}", "[0-9] h")
	ofKnown(t, g, "'s'", "[s] h")
}

// Rules at MaxRules that hold MaxNodes nodes together.
func fullGrammar() api.Grammar {
	g := chain(200, call(nameOf(0)))
	for r := range g.Rules {
		for len(g.Rules[r].Body) < 9 {
			g.Rules[r].Body = append(g.Rules[r].Body, lit(string([]byte{byte(r)})), op(api.PChoice))
		}
	}
	g.Rules[7].Body = append(g.Rules[7].Body, line(api.PSeq, 123, op(api.PAny))...)
	g.Rules[7].Body = append(g.Rules[7].Body, op(api.PSeq))
	return g
}

// 11.1, 11.2: as many rules as a grammar may have, and as many nodes.
func TestLargestGrammars(t *testing.T) {
	g := fullGrammar()
	nodes := 0
	for _, x := range g.Rules {
		nodes += len(x.Body)
	}
	if nodes != api.MaxNodes || len(g.Rules) != api.MaxRules {
		t.Fatal(nodes, len(g.Rules))
	}
	asModel(t, g)
	whole := append(line(api.PChoice, 1023, call(nameOf(0))), op(api.POpt))
	want := modelOf(g).whole(whole)
	if x, e := first.Of(g, whole); x != want || e != api.OK || len(whole) != api.MaxNodes || !x.Empty {
		t.Error(told(x), e)
	}
	row := append(line(api.PSeq, 1023, op(api.PAny)), op(api.POpt))
	alone := grammar(rule("", row...))
	rulesKnown(t, alone, "[^] e")
	asModel(t, alone)
	if parts, e := first.Parts(alone, 0); e != api.OK || len(parts) != api.MaxNodes || told(parts[2046]) != "[^] -" || told(parts[2045]) != "[^] h" {
		t.Error(len(parts), e)
	}
	calls := grammar(rule("s", line(api.PSeq, 1022, call("t"))...), rule("t", lit("a"), op(api.POpt), op(api.PSub)))
	rulesKnown(t, calls, "[a] e", "[a] e")
	asModel(t, calls)
}

// 11.1: patterns as deep as they may be.
func TestDeepest(t *testing.T) {
	for n, want := range map[api.Node]string{
		op(api.PSub): "[a] h", op(api.PAnd): "[a] h", op(api.PPlus): "[a] h", op(api.PNot): "[] e", op(api.PStar): "[a] e", op(api.POpt): "[a] e",
		counted(api.PTimes, 1): "[a] h", counted(api.PTimes, 2): "[a] -", counted(api.PLeast, 1): "[a] h", counted(api.PMost, 50): "[a] e", counted(api.PTimes, 0): "[] e",
	} {
		patternKnown(t, tower(59, n, lit("a")), want)
		asModel(t, grammar(rule("s", tower(59, n, call("s"))...)))
	}
}

// 11.1, 11.2: grammars of all sorts.
func TestScrambledGrammars(t *testing.T) {
	x := newScramble()
	for i := range 4000 {
		asModel(t, x.grammar(1+i%6, 1+i%10))
	}
	for i := range 200 {
		asModel(t, x.grammar(7+i%25, 1+i%12))
	}
	for _, size := range []int{1, 3, 6, 9} {
		asModel(t, x.grammar(200, size))
	}
}

// 11.1: all grammars of two rules, each of which is a node above two leaves.
func TestAllSmallGrammars(t *testing.T) {
	var bodies []api.Pattern
	leaves := list(op(api.PEmpty), op(api.PFail), lit("x"), lit("yz"), call("a"), call("b"))
	for _, one := range leaves {
		for _, other := range leaves {
			bodies = append(bodies, list(one, other, op(api.PSeq)), list(one, other, op(api.PChoice)), list(one, op(api.PNot), other, op(api.PSeq)), list(one, op(api.PAnd), other, op(api.PSeq)), list(one, other, op(api.POpt), op(api.PSeq)))
		}
	}
	for _, p := range bodies {
		for _, q := range bodies {
			g := grammar(rule("a", p...), rule("b", q...))
			m := modelOf(g)
			l, e := first.Rules(g)
			if e != api.OK || len(l) != 2 || l[0] != m.whole(p) || l[1] != m.whole(q) {
				t.Fatalf("Rules(%s): %v, %v, want %v, %v", text(g), l, e, m.whole(p), m.whole(q))
			}
		}
	}
}
