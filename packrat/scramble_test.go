package packrat_test

import (
	"slices"
	"testing"

	"harrow/api"
	"harrow/ford"
	"harrow/packrat"
)

// asModel holds Run of a rule at a place against the model, with just as many steps as it takes; false: the model gave up, or says otherwise.
func asModel(t *testing.T, g api.Grammar, r int, s string, at int) bool {
	t.Helper()
	want, is := runOf(g, r, s, at)
	if !is {
		return false
	}
	if x, e := packrat.Run(g, r, s, at, want.Steps); !sameTable(x, want) || e != api.OK {
		t.Errorf("Run(%s, %d, %q, %d, %d): %s, %v, want %s", text(g), r, s, at, want.Steps, told(g, x), e, told(g, want))
	}
	refusesToRun(t, g, r, s, at, want.Steps-1, api.ErrTired)
	return !t.Failed()
}

// fillAsModel holds Fill against the model, likewise.
func fillAsModel(t *testing.T, g api.Grammar, s string) bool {
	t.Helper()
	want, steps, is := fillOf(g, s)
	if !is {
		return false
	}
	if l, n, e := packrat.Fill(g, s, steps); !sameLists(l, want) || n != steps || e != api.OK {
		t.Errorf("Fill(%s, %q, %d): %v, %d, %v, want %v", text(g), s, steps, l, n, e, want)
	}
	refusesToFill(t, g, s, steps-1, api.ErrTired)
	return !t.Failed()
}

// patternsOf is all right patterns of so many nodes, of a few leaves, all kinds with one part, and both with two.
func patternsOf(size int, leaves []api.Node) []api.Pattern {
	bySize := [][]api.Pattern{nil}
	var above []api.Node
	for _, k := range []int{api.PStar, api.PPlus, api.POpt, api.PAnd, api.PNot, api.PSub} {
		above = append(above, op(k))
	}
	for n := range 3 {
		above = append(above, counted(api.PTimes, n), counted(api.PLeast, n), counted(api.PMost, n))
	}
	for n := 1; n <= size; n++ {
		var all []api.Pattern
		if n == 1 {
			for _, x := range leaves {
				all = append(all, list(x))
			}
		}
		for _, p := range bySize[n-1] {
			for _, x := range above {
				all = append(all, append(slices.Clone(p), x))
			}
		}
		for i := 1; i < n-1; i++ {
			for _, p := range bySize[i] {
				for _, q := range bySize[n-1-i] {
					all = append(all, append(slices.Concat(p, q), op(api.PSeq)), append(slices.Concat(p, q), op(api.PChoice)))
				}
			}
		}
		bySize = append(bySize, all)
	}
	return bySize[size]
}

// 13.1, 13.2: all small patterns that are well formed, at all places of a few subjects.
func TestSmallPatterns(t *testing.T) {
	leaves := []api.Node{op(api.PEmpty), op(api.PFail), op(api.PAny), lit("a"), lit("ab"), set(api.Set{0, 1 << ('b' - 64)}), op(api.PPlace)}
	for size := 1; size <= 4; size++ {
		for i, p := range patternsOf(size, leaves) {
			g := alone(p...)
			if size == 4 && i%9 > 0 { // it would take long to try them all
				continue
			}
			if _, e := ford.Check(g); e != api.OK {
				continue
			}
			for _, s := range []string{"", "a", "aab", "ba"} {
				for at := range len(s) + 1 {
					if !asModel(t, g, 0, s, at) {
						t.Fatal(text(g))
					}
				}
				if !fillAsModel(t, g, s) {
					t.Fatal(text(g))
				}
			}
		}
	}
}

// 13.1, 13.2: all small patterns that call two rules and themselves, ahead of these rules and behind them.
func TestSmallPatternsWithCalls(t *testing.T) {
	leaves := []api.Node{lit("a"), op(api.PEmpty), call("s"), call("t"), call("u")}
	calls := 0
	for size := 1; size <= 5; size++ {
		for i, p := range patternsOf(size, leaves) {
			if size > 3 && i%[]int{7, 199}[size-4] > 0 { // as above
				continue
			}
			s, u, v := rule("s", p...), rule("t", lit("a"), op(api.POpt)), rule("u", call("t"), lit("b"), op(api.PSeq))
			g := []api.Grammar{grammar(s, u, v), grammar(v, u, s), grammar(u, s, v)}[i%3]
			if _, e := ford.Check(g); e != api.OK {
				continue
			}
			for _, s := range []string{"", "aaba"} {
				for r := range g.Rules {
					if !asModel(t, g, r, s, 0) || !asModel(t, g, r, s, len(s)/2) {
						t.Fatal(text(g))
					}
				}
				if !fillAsModel(t, g, s) {
					t.Fatal(text(g))
				}
			}
			calls++
		}
	}
	if calls < 1500 {
		t.Error("too little was seen:", calls)
	}
}

// 13.1, 13.2: grammars of all sorts, each rule at each place, and their whole tables.
func TestScrambledGrammars(t *testing.T) {
	x := newScramble()
	seen, matched, struckOut, filled, shuffled := 0, 0, 0, 0, 0
	for i := range 1500 {
		g := x.wellFormed(1+i%6, 1+i%12)
		s := x.subject(7)
		for r := range g.Rules {
			for at := range len(s) + 1 {
				walk, is := tries(g, r, s, at)
				if !is {
					continue
				}
				if !asModel(t, g, r, s, at) {
					t.Fatal(text(g))
				}
				seen++
				if walk[0].End >= 0 {
					matched++
				}
				if len(struck(walk)) < len(walk) {
					struckOut++
				}
			}
		}
		if fillAsModel(t, g, s) {
			filled++
		}
		if t.Failed() {
			t.Fatal(text(g))
		}
		if order, _ := ford.Order(g); !slices.IsSorted(order) {
			shuffled++
		}
	}
	if min(seen, 2*matched, 30*struckOut, 10*filled, 20*shuffled) < 10000 {
		t.Error("too little was seen:", seen, matched, struckOut, filled, shuffled)
	}
}

// 13.1, 13.2: rules that stand in all orders tell the same, each under its own number.
func TestShuffledRules(t *testing.T) {
	x := newScramble()
	for i := range 300 {
		g := x.wellFormed(2+i%5, 1+i%10)
		s := x.subject(7)
		want, steps, e := packrat.Fill(g, s, enough)
		if e != api.OK {
			continue
		}
		order := x.order(len(g.Rules))
		var h api.Grammar
		var ends [][]int
		for _, r := range order {
			h.Rules = append(h.Rules, g.Rules[r])
			ends = append(ends, want[r])
		}
		fills(t, h, s, ends, steps)
		for k, r := range order {
			a, e := packrat.Run(g, r, s, 0, enough)
			b, f := packrat.Run(h, k, s, 0, enough)
			if a.Kind != b.Kind || a.End != b.End || a.Steps != b.Steps || len(a.Rows) != len(b.Rows) || e != f {
				t.Fatalf("%s, the rule %d: %s; %s, the rule %d: %s", text(g), r, told(g, a), text(h), k, told(h, b))
			}
			for _, row := range b.Rows {
				row.Rule = order[row.Rule]
				if !slices.Contains(a.Rows, row) {
					t.Fatalf("%s, %s: no row %v", text(g), told(g, a), row)
				}
			}
		}
	}
}

// 13.1, 13.2: grammars of a few rules that take longer subjects.
func TestLongerSubjects(t *testing.T) {
	x := newScramble()
	for _, text := range []string{
		"e <- t (('+' / '-') t)* t <- f ('*' f)* f <- {[0-9]+} / '(' {e} ')'",
		"s <- {| t* |} t <- {[a-z]} / '(' s ')'",
		"s <- {'a' s 'b'} / {} 'c'?",
		"s <- (&t !u t / u)* t <- u / [ab] u <- '(' / '1' t",
		"s <- (&([a-c]^+2) {t} / {| . {}^2 |})^-40 'z'? t <- [a-c]",
	} {
		g := read(t, text)
		for range 40 {
			var s []byte
			for range x.below(60) {
				s = append(s, "01+-*()ab()abcz"[x.below(15)])
			}
			for r := range g.Rules {
				for at := 0; at <= len(s); at += 1 + x.below(8) {
					if !asModel(t, g, r, string(s), at) {
						t.Fatal(text, "takes too long")
					}
				}
			}
			if !fillAsModel(t, g, string(s)) {
				t.Fatal(text, "takes too long")
			}
		}
	}
}
