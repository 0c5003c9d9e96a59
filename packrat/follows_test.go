package packrat_test

import (
	"slices"
	"testing"

	"harrow/api"
	"harrow/packrat"
	"harrow/walk"
)

// eachGrammar hands out grammars of all sorts, each with a subject.
func eachGrammar(t *testing.T, n int, see func(x *scramble, g api.Grammar, s string)) {
	t.Helper()
	x := newScramble()
	for i := range n {
		g := x.wellFormed(1+i%6, 1+i%12)
		see(x, g, x.subject(9))
	}
	for _, text := range []string{
		"e <- t (('+' / '-') t)* t <- f ('*' f)* f <- [a-b]+ / 'c' e 'c'",
		"s <- a 'x' / a 'c' a <- 'b' a / 'b'",
		"s <- (&t !u t / u)* t <- u / [ab] u <- 'c' / 'a' t",
		"s <- 'a' s 'b' / 'a' s 'c' / %e",
	} {
		g := read(t, text)
		for range 30 {
			see(x, g, x.subject(12))
		}
	}
}

// endOf is where Walk says that a rule goes from a place; -1, if it fails there.
func endOf(t *testing.T, g api.Grammar, r int, s string, at int) int {
	t.Helper()
	x, _, e := walk.Walk(g, r, s, at, api.MaxSteps)
	switch {
	case e != api.OK:
		t.Fatalf("Walk(%s, %d, %q, %d): %v", text(g), r, s, at, e)
	case x.Kind == api.Failed:
		return -1
	}
	return x.End
}

// 13.3: each member of the whole table is what Walk says of that rule at that place.
func TestTableIsTheRelation(t *testing.T) {
	seen := 0
	eachGrammar(t, 1000, func(_ *scramble, g api.Grammar, s string) {
		l, _, e := packrat.Fill(g, s, api.MaxSteps)
		if e != api.OK || len(l) != len(g.Rules) {
			t.Fatalf("Fill(%s, %q): %v, %v", text(g), s, l, e)
		}
		for r, row := range l {
			if len(row) != len(s)+1 {
				t.Fatalf("Fill(%s, %q): %v", text(g), s, l)
			}
			for at, end := range row {
				seen++
				if want := endOf(t, g, r, s, at); end != want {
					t.Fatalf("Fill(%s, %q): %v, but the rule %d at %d goes to %d", text(g), s, l, r, at, want)
				}
			}
		}
	})
	if seen < 10000 {
		t.Error("too little was seen:", seen)
	}
}

// 13.3, 13.4, 13.5: Run ends as Walk does, in no more steps; each of its rows is what Walk says, and what the whole table says; no rule has two for one place, and they rise.
func TestRunIsTheRelation(t *testing.T) {
	rows, fewer := 0, 0
	eachGrammar(t, 1000, func(x *scramble, g api.Grammar, s string) {
		l, _, _ := packrat.Fill(g, s, api.MaxSteps)
		for r := range g.Rules {
			at := x.below(len(s) + 1)
			y, e := packrat.Run(g, r, s, at, api.MaxSteps)
			z, steps, f := walk.Walk(g, r, s, at, api.MaxSteps)
			if e != f || y.Kind != z.Kind || y.End != z.End || y.Steps > steps {
				t.Fatalf("Run(%s, %d, %q, %d): %s, %v, but Walk %v, %d steps, %v", text(g), r, s, at, told(g, y), e, z, steps, f)
			}
			if y.Steps < steps {
				fewer++
			}
			rows += len(y.Rows)
			if !slices.Contains(y.Rows, api.Row{Rule: r, At: at, End: l[r][at]}) || !areRows(t, g, s, y.Rows, l) {
				t.Fatalf("Run(%s, %d, %q, %d): %s; the whole table %v", text(g), r, s, at, told(g, y), l)
			}
		}
	})
	if rows < 5000 || fewer < 100 {
		t.Error("too little was seen:", rows, fewer)
	}
}

// areRows says whether rows rise, without two for one place, and whether each is what Walk and the whole table say.
func areRows(t *testing.T, g api.Grammar, s string, rows []api.Row, l [][]int) bool {
	t.Helper()
	for i, x := range rows {
		if x.End != endOf(t, g, x.Rule, s, x.At) || x.End != l[x.Rule][x.At] {
			return false
		}
		if i > 0 && (x.Rule < rows[i-1].Rule || x.Rule == rows[i-1].Rule && x.At <= rows[i-1].At) {
			return false
		}
	}
	return true
}

// 13.1, 13.2: a greater most changes nothing, once there are steps enough; with fewer nothing is told.
func TestGreaterMost(t *testing.T) {
	eachGrammar(t, 200, func(x *scramble, g api.Grammar, s string) {
		r, at := x.below(len(g.Rules)), x.below(len(s)+1)
		want, e := packrat.Run(g, r, s, at, enough)
		ends, steps, f := packrat.Fill(g, s, enough)
		if e != api.OK || f != api.OK {
			t.Fatal(text(g), e, f)
		}
		for most := range want.Steps + 5 {
			if most < want.Steps {
				refusesToRun(t, g, r, s, at, most, api.ErrTired)
			} else if y, e := packrat.Run(g, r, s, at, most); !sameTable(y, want) || e != api.OK {
				t.Fatalf("Run(%s, %d, %q, %d, %d): %s, %v, want %s", text(g), r, s, at, most, told(g, y), e, told(g, want))
			}
		}
		for most := 0; most < steps+5; most += 1 + steps/50 {
			if most < steps {
				refusesToFill(t, g, s, most, api.ErrTired)
			} else if l, n, e := packrat.Fill(g, s, most); !sameLists(l, ends) || n != steps || e != api.OK {
				t.Fatalf("Fill(%s, %q, %d): %v, %d, %v, want %v", text(g), s, most, l, n, e, ends)
			}
		}
	})
}

// An answer is all that both calls tell.
type answer struct {
	table api.Table
	ends  [][]int
	steps int
}

func answerOf(t *testing.T, g api.Grammar, r int, s string, at int) answer {
	t.Helper()
	var a answer
	var e, f api.Errno
	a.table, e = packrat.Run(g, r, s, at, enough)
	a.ends, a.steps, f = packrat.Fill(g, s, enough)
	if e != api.OK || f != api.OK {
		t.Fatal(text(g), e, f)
	}
	return a
}

func (a answer) same(b answer) bool {
	return sameTable(a.table, b.table) && sameLists(a.ends, b.ends) && a.steps == b.steps
}

func (a answer) cloned() answer {
	a.table.Rows = slices.Clone(a.table.Rows)
	a.ends = slices.Clone(a.ends)
	for r := range a.ends {
		a.ends[r] = slices.Clone(a.ends[r])
	}
	return a
}

// spoil writes over all that was answered, and over the room behind it, and puts more behind it.
func (a answer) spoil() {
	rows := a.table.Rows[:cap(a.table.Rows)]
	for i := range rows {
		rows[i] = api.Row{Rule: -7, At: -7, End: -7}
	}
	ends := a.ends[:cap(a.ends)]
	for r := range ends {
		row := ends[r][:cap(ends[r])]
		for at := range row {
			row[at] = -7
		}
		ends[r] = append(row, -7)
	}
}

// R4, R7: what is handed in stays as it is, with the room behind it, and nothing is read there; what is written into an answer, and into the room behind it, changes no later answer and nothing that was handed in; the same call tells the same.
func TestNothingIsShared(t *testing.T) {
	eachGrammar(t, 300, func(x *scramble, g api.Grammar, s string) {
		g = roomy(g)
		r, at := x.below(len(g.Rules)), x.below(len(s)+1)
		before := cloned(g)
		a := answerOf(t, g, r, s, at)
		want := a.cloned()
		b := answerOf(t, g, r, s, at)
		a.spoil()
		if !b.same(want) || !answerOf(t, g, r, s, at).same(want) {
			t.Fatalf("%s, %d, %q, %d: the answer is another one, once one was spoilt", text(g), r, s, at)
		}
		if !sameRules(g, before) {
			t.Fatalf("%s, %d, %q, %d: what was handed in is another one", text(g), r, s, at)
		}
		if !answerOf(t, before, r, s, at).same(want) {
			t.Fatalf("%s, %d, %q, %d: what lies behind the lists' lengths shows", text(g), r, s, at)
		}
	})
}

// R4: no two lists of the whole table share any: what is written over one, into the room behind it, or put behind it, shows in no other one.
func TestNoTwoListsShare(t *testing.T) {
	g := read(t, "s <- t 'x' / u t <- u? 'a' u <- [b] v <- 'a'* w <- %f")
	for _, s := range []string{"", "b", "bax", "aaaaaaab", times("ab", 300)} {
		want, _, e := packrat.Fill(g, s, enough)
		if e != api.OK {
			t.Fatal(e)
		}
		for r := range want {
			l, _, _ := packrat.Fill(g, s, enough)
			row := l[r][:cap(l[r])]
			for at := range row {
				row[at] = -7
			}
			more := l[r]
			for range len(s) + 5 {
				more = append(more, -8)
			}
			for other := range l {
				if other != r && !slices.Equal(l[other], want[other]) {
					t.Errorf("%q: what is written over the list %d shows in the list %d: %v", s, r, other, l[other])
				}
			}
		}
	}
}

// roomy is a grammar with room behind its lists, in which something stands.
func roomy(g api.Grammar) api.Grammar {
	var rules []api.Rule
	for _, x := range g.Rules {
		body := append(slices.Clone(x.Body), op(api.PFail), call("nobody"))
		rules = append(rules, rule(x.Name, body[:len(x.Body)]...))
	}
	rules = append(rules, rule("s", op(api.PAny)), rule("nobody", op(-1)))
	return api.Grammar{Rules: rules[:len(g.Rules)]}
}

// cloned is a grammar with all that lies behind its lists' lengths.
func cloned(g api.Grammar) api.Grammar {
	rules := slices.Clone(g.Rules[:cap(g.Rules)])
	for i, x := range rules {
		rules[i].Body = slices.Clone(x.Body[:cap(x.Body)])[:len(x.Body)]
	}
	return api.Grammar{Rules: rules[:len(g.Rules)]}
}

// sameRules holds grammars against one another with what lies behind their lists' lengths, as far as both have it.
func sameRules(g, h api.Grammar) bool {
	a, b := g.Rules[:cap(g.Rules)], h.Rules[:cap(h.Rules)]
	n := min(len(a), len(b))
	if n < len(g.Rules) || len(g.Rules) != len(h.Rules) {
		return false
	}
	return slices.EqualFunc(a[:n], b[:n], func(x, y api.Rule) bool {
		m := min(cap(x.Body), cap(y.Body))
		return x.Name == y.Name && len(x.Body) == len(y.Body) && slices.Equal(x.Body[:m], y.Body[:m])
	})
}

// R3: a list without an element may be nil or empty.
func TestNilAndEmpty(t *testing.T) {
	for _, p := range []api.Pattern{nil, {}} {
		refusesToRun(t, alone(p...), 0, "", 0, 1, api.ErrParts)
		refusesToFill(t, alone(p...), "", 1, api.ErrParts)
	}
	for _, l := range [][]api.Rule{nil, {}} {
		refusesToRun(t, api.Grammar{Rules: l}, 0, "", 0, 1, api.ErrShape)
		refusesToFill(t, api.Grammar{Rules: l}, "", 1, api.ErrShape)
	}
}

// R7: calls tell each other nothing, whatever came between them.
func TestCallsTellEachOtherNothing(t *testing.T) {
	g := read(t, "s <- a 'x' / a 'y' a <- 'b' a / 'b'")
	want := answerOf(t, g, 0, "bby", 0).cloned()
	between := []func(){
		func() { packrat.Run(g, 0, "bby", 0, 7) },
		func() { packrat.Run(g, 1, "xxx", 1, 70) },
		func() { packrat.Run(stair(3), 0, times("a", 6000), 0, api.MaxSteps) },
		func() { packrat.Run(read(t, "s <- t* t <- ."), 0, times("a", api.MaxSubject), 0, api.MaxSteps) },
		func() { packrat.Fill(g, "xyb", 5) },
		func() { packrat.Fill(read(t, "s <- a / 'x' a <- 'y'"), "bby", 500) },
	}
	for _, call := range between {
		call()
		if !answerOf(t, g, 0, "bby", 0).same(want) {
			t.Error("a call shows in a later one")
		}
	}
}
