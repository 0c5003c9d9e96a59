package rewrite_test

import (
	"slices"
	"strings"
	"testing"

	"harrow/api"
	"harrow/ford"
	"harrow/rewrite"
	"harrow/rules"
	"harrow/tree"
	"harrow/walk"
)

// patternsOf is all patterns of so many nodes that can be made of these nodes.
func patternsOf(size int, nodes []api.Node) []api.Pattern {
	bySize := [][]api.Pattern{nil}
	for n := 1; n <= size; n++ {
		var l []api.Pattern
		for _, x := range nodes {
			switch tree.Arity(x.Op) {
			case 0:
				if n == 1 {
					l = append(l, list(x))
				}
			case 1:
				for _, p := range bySize[n-1] {
					l = append(l, append(slices.Clone(p), x))
				}
			case 2:
				for first := 1; first < n-1; first++ {
					for _, p := range bySize[first] {
						for _, q := range bySize[n-1-first] {
							l = append(l, slices.Concat(p, q, list(x)))
						}
					}
				}
			}
		}
		bySize = append(bySize, l)
	}
	return bySize[size]
}

func someNodes(t *testing.T, which string) []api.Node {
	t.Helper()
	words := map[string]api.Node{
		"none": set(api.Set{}), "all": set(all()), "set": set(one('b')), "a": lit("a"), "ab": lit("ab"), "x": call("x"),
		"times0": counted(api.PTimes, 0), "times1": counted(api.PTimes, 1), "times2": counted(api.PTimes, 2),
		"least0": counted(api.PLeast, 0), "least1": counted(api.PLeast, 1), "least2": counted(api.PLeast, 2),
		"most0": counted(api.PMost, 0), "most1": counted(api.PMost, 1), "most2": counted(api.PMost, 2),
		"k": worded(api.PGroup, "k"), "string": worded(api.PString, "%0"), "pick": counted(api.PPick, 1),
	}
	for i, word := range strings.Fields(kindWords) {
		if _, is := words[word]; !is {
			words[word] = op(1 + i)
		}
	}
	var l []api.Node
	for _, word := range strings.Fields(which) {
		n, is := words[word]
		if !is {
			t.Fatal(word)
		}
		l = append(l, n)
	}
	return l
}

// S1, S2: all patterns of few nodes, held against the chapter's table.
func TestSmallPatterns(t *testing.T) {
	m := newModel()
	for _, x := range []struct {
		most  int
		nodes string
	}{
		{3, "empty fail any a ab none all set x place seq choice star plus opt and not times0 times1 times2 least0 least1 least2 most0 most1 most2 sub group k list subst string pick"},
		{4, "empty fail any ab set x place seq choice star opt not"},
		{5, "fail a x seq choice plus"},
		{5, "empty x place seq choice and"},
		{5, "set ab x seq choice sub"},
		{6, "x star opt not sub"},
		{7, "a x seq choice"},
		{7, "ab x seq"},
		{9, "x seq"},
	} {
		for size := 1; size <= x.most; size++ {
			for _, p := range patternsOf(size, someNodes(t, x.nodes)) {
				if m.asModel(t, p); t.Failed() {
					t.Fatal("of", text(p))
				}
			}
		}
	}
}

// S1, S2, S3: scrambled patterns, held against the chapter's table; what is told is right, has no more nodes, is no higher, and stays; Once as often as Rules' numbers say leads there, by the rules that they tell.
func TestScrambledPatterns(t *testing.T) {
	m := newModel()
	x := newScramble()
	seen := make([]int, 16)
	for i := range 4000 {
		p := x.pattern(1+x.below(5+i%30), []string{"x", "y"})
		q, counts, way := m.simple(p)
		simpler(t, p, q, counts)
		stays(t, q)
		reached := p
		left := slices.Clone(counts)
		for _, step := range way[1:] {
			next, rule, e := rewrite.Once(reached)
			if !slices.Equal(next, step) || rule < 1 || rule > 16 || e != api.OK {
				t.Fatalf("%s: Once of %s: %s by %d, %v, want %s", text(p), text(reached), text(next), rule, e, text(step))
			}
			noMore(t, reached, next)
			reached = next
			left[rule-1]--
			seen[rule-1]++
		}
		if !slices.Equal(left, make([]int, 16)) || !slices.Equal(reached, q) {
			t.Fatalf("%s: Once leads to %s, of Rules is left %v", text(p), text(reached), left)
		}
		if t.Failed() {
			return
		}
	}
	if slices.Min(seen) < 50 {
		t.Error("too little was tried:", seen)
	}
}

// noMore: a pattern is right, has no more nodes than the one that it was, and is no higher.
func noMore(t *testing.T, was, is api.Pattern) {
	t.Helper()
	before, _ := tree.Height(was)
	after, e := tree.Height(is)
	if e != api.OK || after > before || len(is) > len(was) {
		t.Fatalf("%s became %s: %v", text(was), text(is), e)
	}
}

// S3: Simple of large patterns, too large for the model, is right, has no more nodes, is no higher, stays as it is; Once leads there.
func TestLargePatterns(t *testing.T) {
	x := newScramble()
	for range 60 {
		p := x.pattern(300, []string{"x", "y"})
		if _, e := tree.Check(p); e != api.OK {
			continue
		}
		q, e := rewrite.Simple(p)
		counts, f := rewrite.Rules(p)
		if e != api.OK || f != api.OK {
			t.Fatal(e, f)
		}
		noMore(t, p, q)
		stays(t, q)
		reached := p
		for {
			next, rule, _ := rewrite.Once(reached)
			if rule == 0 {
				break
			}
			noMore(t, reached, next)
			reached = next
			counts[rule-1]--
		}
		if !slices.Equal(reached, q) || !slices.Equal(counts, make([]int, 16)) {
			t.Fatalf("Once leads from %s to %s, Simple to %s; left %v", text(p), text(reached), text(q), counts)
		}
	}
}

// enough is more steps than a walk of these tests takes that is not left away.
const enough = 1 << 11

// agree: each rule of both grammars does the same at each place of a subject; false, if something took too many steps to be held against anything.
func agree(t *testing.T, g, h api.Grammar, s string) bool {
	t.Helper()
	isAll := true
	for r := range g.Rules {
		isAll = ruleAgrees(t, g, h, r, s) && isAll
	}
	return isAll
}

func ruleAgrees(t *testing.T, g, h api.Grammar, r int, s string) bool {
	t.Helper()
	isAll := true
	for at := range len(s) + 1 {
		x, _, e := walk.Walk(g, r, s, at, enough)
		if e != api.OK {
			isAll = false
			continue
		}
		y, _, f := walk.Walk(h, r, s, at, api.MaxSteps)
		if f != api.OK || x.Kind != y.Kind || x.End != y.End || !slices.Equal(x.Caps, y.Caps) {
			t.Fatalf("rule %d of %q at %d: %s: %v; %s: %v, %v", r, s, at, brief(g), x, brief(h), y, f)
		}
	}
	return isAll
}

// behind: Grammar of g is right and well formed, has g's names, and Simple of each of its patterns.
func behind(t *testing.T, g api.Grammar) api.Grammar {
	t.Helper()
	h, e := rewrite.Grammar(g)
	if _, f := rules.Check(h); e != api.OK || f != api.OK || len(h.Rules) != len(g.Rules) {
		t.Fatalf("Grammar of %s: %s, %v, %v", brief(g), brief(h), e, f)
	}
	if _, was := ford.Check(g); was == api.OK {
		if v, is := ford.Check(h); is != api.OK {
			t.Fatalf("Grammar of %s: %s is not well formed: %v, %v", brief(g), brief(h), v, is)
		}
	}
	for r, x := range g.Rules {
		want, f := rewrite.Simple(x.Body)
		if f != api.OK || h.Rules[r].Name != x.Name || !slices.Equal(h.Rules[r].Body, want) {
			t.Fatalf("Grammar of %s: %s", brief(g), brief(h))
		}
	}
	return h
}

// steps are g behind a single use of a rule each, pattern by pattern, till Grammar of it is come to.
func steps(t *testing.T, g api.Grammar) []api.Grammar {
	t.Helper()
	var l []api.Grammar
	for r := range g.Rules {
		for {
			next, rule, e := rewrite.Once(g.Rules[r].Body)
			if e != api.OK {
				t.Fatal(e)
			}
			if rule == 0 {
				break
			}
			g = api.Grammar{Rules: slices.Clone(g.Rules)}
			g.Rules[r].Body = next
			l = append(l, g)
		}
	}
	return l
}

// S3: all small patterns, well formed ones, beside a rule that they call, behind each use of a rule.
func TestSmallPatternsDoTheSame(t *testing.T) {
	under := readGrammar(t, "x <- {'ab'} / 'b'").Rules[0]
	tried := 0
	for _, y := range []struct {
		size  int
		nodes string
	}{
		{2, "empty fail any a ab none all set x place star plus opt and not times0 times1 times2 least0 least1 least2 most0 most1 most2 sub group k list subst string pick"},
		{3, "empty fail any a ab none all set x place seq choice star plus opt and not times1 times2 least0 least1 most0 most1 sub k pick"},
		{4, "empty a x place seq choice plus opt not"},
		{5, "a x place seq choice"},
	} {
		for i, p := range patternsOf(y.size, someNodes(t, y.nodes)) {
			g := grammar(rule("s", p...), under)
			if _, e := ford.Check(g); e != api.OK || i%3 > 0 && y.size > 3 {
				continue
			}
			tried++
			behind(t, g)
			for _, h := range steps(t, g) {
				if _, e := ford.Check(h); e != api.OK {
					t.Fatalf("%s is no longer well formed: %s", brief(g), brief(h))
				}
				for _, s := range []string{"", "aba", "bba"} {
					agree(t, g, h, s)
				}
			}
		}
	}
	if tried < 2000 {
		t.Error("too little was tried:", tried)
	}
}

// S3: scrambled grammars that are well formed: behind Grammar, and behind each use of a rule, each rule matches and fails where it did, with the same end and the same captures.
func TestScrambledGrammarsDoTheSame(t *testing.T) {
	x := newScramble()
	whole, single, captured := 0, 0, 0
	for i := range 500 {
		g := x.wellFormed(1+i%4, 4+i%16)
		h := behind(t, g)
		subjects := []string{"", x.subject(4), x.subject(7)}
		for _, s := range subjects {
			if agree(t, g, h, s) {
				whole++
			}
			if y, _, e := walk.Walk(g, 0, s, 0, enough); e == api.OK && len(y.Caps) > 0 {
				captured++
			}
		}
		l := steps(t, g)
		for _, step := range l {
			if _, e := ford.Check(step); e != api.OK {
				t.Fatalf("%s is no longer well formed: %s", brief(g), brief(step))
			}
			agree(t, g, step, subjects[1+i%2])
			single++
		}
		if len(l) > 0 && !rules.Same(l[len(l)-1], h) {
			t.Fatalf("uses one by one lead from %s to %s, Grammar to %s", brief(g), brief(l[len(l)-1]), brief(h))
		}
	}
	if whole < 1200 || single < 1200 || captured < 100 {
		t.Error("too little was tried:", whole, single, captured)
	}
}

// S3: the rules by themselves, with calls that capture and such that fail, match nothing, or take more than a byte in the place of x, y and z.
func TestEachRuleDoesTheSame(t *testing.T) {
	for _, under := range []string{
		"x <- 'a' y <- {'b'} / 'ab' z <- [a-c]",
		"x <- {'a'} / {:k: . :} y <- %f z <- {}? 'b'",
		"x <- {| {'a'} 'b'? |} y <- !'b' {.} z <- 'a' / 'b' 'a'",
		"x <- %f y <- .. z <- {'ba'} / 'b'",
	} {
		rest := readGrammar(t, under+" v <- 'c' w <- 'a'").Rules
		tried := 0
		for _, use := range uses() {
			for _, y := range surroundings()[:11] {
				p := slices.Concat(y.ahead, read(t, use.part), y.behind)
				q := slices.Concat(y.ahead, read(t, use.becomes), y.behind)
				g, h := grammar(append([]api.Rule{rule("s", p...)}, rest...)...), grammar(append([]api.Rule{rule("s", q...)}, rest...)...)
				if _, e := ford.Check(g); e != api.OK {
					continue
				}
				tried++
				if v, e := ford.Check(h); e != api.OK {
					t.Fatalf("%s became %s: %v, %v", text(p), text(q), v, e)
				}
				for _, s := range []string{"ab", "bac"} {
					ruleAgrees(t, g, h, 0, s)
				}
			}
		}
		if tried < 1000 {
			t.Error("too little was tried:", tried)
		}
	}
}
