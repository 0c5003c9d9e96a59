package rewrite_test

import (
	"slices"
	"testing"
	"unsafe"

	"harrow/api"
	"harrow/rewrite"
	"harrow/rules"
)

// roomy is a pattern with something else behind its length, at which a rule could be used.
func roomy(p api.Pattern) api.Pattern {
	return slices.Concat(p, list(op(-1), call("spare"), op(api.PEmpty), op(api.PSeq), lit("spare")))[:len(p)]
}

// roomyGrammar is a grammar whose lists have something else behind their lengths; the rest of its list of rules is answered beside it.
func roomyGrammar(g api.Grammar) (api.Grammar, []api.Rule) {
	var l []api.Rule
	for _, x := range g.Rules {
		l = append(l, api.Rule{Name: x.Name, Body: roomy(x.Body)})
	}
	n := len(l)
	l = append(l, rule("1"), rule("spare", op(-1)))
	return api.Grammar{Rules: l[:n]}, l
}

// whole copies rules with all that lies in their patterns' room.
func whole(l []api.Rule) api.Grammar {
	var g api.Grammar
	for _, x := range l {
		g.Rules = append(g.Rules, api.Rule{Name: x.Name, Body: slices.Clone(x.Body[:cap(x.Body)])})
	}
	return g
}

func spoil(p api.Pattern) {
	for i := range p[:cap(p)] {
		p[:cap(p)][i] = lit("spoilt")
	}
}

func spoilGrammar(g api.Grammar) {
	all := g.Rules[:cap(g.Rules)]
	for i := range all {
		spoil(all[i].Body)
		all[i] = rule("spoilt", op(-1))
	}
}

func spoilNumbers(l []int) {
	for i := range l[:cap(l)] {
		l[:cap(l)][i] = -1
	}
}

// R4, R7: a pattern that is handed in stays as it is, with the room behind it, and nothing is read there; what is written into an answer, and into the room behind it, changes no later answer and nothing that was handed in; the same call tells the same.
func TestPatternsLieAlone(t *testing.T) {
	x := newScramble()
	changed, same := 0, 0
	for i := range 2000 {
		p := x.pattern(1+i%12, []string{"x", "y"})
		given := roomy(p)
		before := slices.Clone(given[:cap(given)])
		once, number, _ := rewrite.Once(p)
		simple, _ := rewrite.Simple(p)
		counts, _ := rewrite.Rules(p)
		once, simple, counts = slices.Clone(once), slices.Clone(simple), slices.Clone(counts)
		for range 3 {
			becomes(t, given, once, number)
			simpler(t, given, simple, counts)
			a, _, _ := rewrite.Once(given)
			b, _ := rewrite.Simple(given)
			c, _ := rewrite.Rules(given)
			spoil(a)
			if !slices.Equal(b, simple) {
				t.Fatal("two answers lie in one another:", text(p))
			}
			spoil(b)
			spoilNumbers(c)
			if !slices.Equal(given[:cap(given)], before) {
				t.Fatal("what was handed in was changed:", text(p))
			}
		}
		if number == 0 {
			same++
		} else {
			changed++
		}
	}
	if min(changed, same) < 200 {
		t.Error("too little was tried:", changed, same)
	}
}

// R4, R7: likewise with a grammar; no two patterns of an answer share any, whether a rule was used in them or not.
func TestGrammarsLieAlone(t *testing.T) {
	x := newScramble()
	for i := range 500 {
		g := x.grammar(1+i%5, 10)
		given, room := roomyGrammar(g)
		before := whole(room)
		plain, _ := rewrite.Grammar(g)
		want := whole(plain.Rules)
		for r := range want.Rules {
			want.Rules[r].Body = want.Rules[r].Body[:len(plain.Rules[r].Body)]
		}
		for range 3 {
			h, e := rewrite.Grammar(given)
			other, _ := rewrite.Grammar(given)
			if !rules.Same(h, want) || e != api.OK {
				t.Fatalf("Grammar of %s: %s, %v, want %s", brief(g), brief(h), e, brief(want))
			}
			for r := range h.Rules {
				spoil(h.Rules[r].Body)
				if !rules.Same(grammar(h.Rules[r+1:]...), grammar(want.Rules[r+1:]...)) {
					t.Fatal("two patterns lie in one another:", brief(g))
				}
			}
			spoilGrammar(h)
			if !rules.Same(other, want) {
				t.Fatal("two answers lie in one another:", brief(g))
			}
			spoilGrammar(other)
			if !rules.Same(whole(room), before) {
				t.Fatal("what was handed in was changed:", brief(g))
			}
		}
	}
}

// R4: two patterns of a grammar that are one list as they are handed in are two lists behind it.
func TestOneListTwice(t *testing.T) {
	for _, s := range []string{"x y", "'a' 'b'", "x"} {
		body := read(t, s)
		h, e := rewrite.Grammar(grammar(rule("x", body...), api.Rule{Name: "y", Body: body}, api.Rule{Name: "z", Body: body}))
		if e != api.OK {
			t.Fatal(e)
		}
		want := slices.Clone(h.Rules[2].Body)
		spoil(h.Rules[1].Body)
		if !slices.Equal(h.Rules[2].Body, want) || slices.Equal(body, h.Rules[1].Body) {
			t.Error(s, "lies in itself")
		}
	}
}

// texts is where the texts of a pattern lie.
func texts(p api.Pattern) []*byte {
	var l []*byte
	for _, n := range p {
		if n.Text != "" {
			l = append(l, unsafe.StringData(n.Text))
		}
	}
	return l
}

// R4: an answer has texts of its own, whether a rule was used there or not.
func TestTextsLieAlone(t *testing.T) {
	for _, s := range []string{"x", "'ab'", "'a' x", "'a' 'b' x", "{:k: 'ab' :}", "x -> 't'", "x %e", "x / %f", "'a' / %f", "(x -> 't')? / y", "!{'ab'}", "x* / 'ab'", "'ab' (x {:k: y :})"} {
		p := read(t, s)
		was := texts(p)
		once, _, _ := rewrite.Once(p)
		again, _, _ := rewrite.Once(p)
		simple, _ := rewrite.Simple(p)
		h, _ := rewrite.Grammar(grammar(rule("x", p...), rule("y", p...)))
		for _, q := range []api.Pattern{once, again, simple, h.Rules[0].Body, h.Rules[1].Body} {
			for _, at := range texts(q) {
				if slices.Contains(was, at) {
					t.Error(s, "keeps a text, or shares one with another answer")
				}
			}
			was = append(was, texts(q)...)
		}
	}
	names := grammar(rule("x", lit("a")), rule("y", lit("a"), op(api.PEmpty), op(api.PSeq)))
	h, _ := rewrite.Grammar(names)
	for r, x := range h.Rules {
		if unsafe.StringData(x.Name) == unsafe.StringData(names.Rules[r].Name) {
			t.Error(x.Name, "is kept")
		}
	}
}

// S2, R4: Rules tells sixteen numbers, also where none was used; a new list each time.
func TestNumbersLieAlone(t *testing.T) {
	for _, s := range []string{"x", "x %e", "'a' 'b' 'c'"} {
		p := read(t, s)
		a, _ := rewrite.Rules(p)
		b, _ := rewrite.Rules(p)
		want := slices.Clone(b)
		spoilNumbers(a)
		if !slices.Equal(b, want) || len(b) != 16 {
			t.Error(s, b, want)
		}
	}
}

// R5, R7: a call tells nothing to the next one, refused or not.
func TestCallsTellEachOtherNothing(t *testing.T) {
	x := newScramble()
	var wrong []api.Pattern
	for _, l := range wrongPatterns() {
		wrong = append(wrong, l...)
	}
	slices.SortFunc(wrong, func(p, q api.Pattern) int { return len(p) - len(q) })
	type told struct {
		p, once, simple api.Pattern
		number          int
		counts          []int
	}
	var all []told
	for i := range 300 {
		y := told{p: x.pattern(1+i%20, []string{"x", "y"})}
		y.once, y.number, _ = rewrite.Once(y.p)
		y.simple, _ = rewrite.Simple(y.p)
		y.counts, _ = rewrite.Rules(y.p)
		all = append(all, y)
	}
	for range 600 {
		y := all[x.below(len(all))]
		if x.below(2) == 0 {
			p := wrong[x.below(len(wrong)*3/4)]
			rewrite.Once(p)
			rewrite.Simple(p)
			rewrite.Rules(p)
			rewrite.Grammar(grammar(rule("s", y.p...), rule("t", p...)))
		}
		becomes(t, y.p, y.once, y.number)
		simpler(t, y.p, y.simple, y.counts)
	}
}
