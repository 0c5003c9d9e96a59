package ford_test

import (
	"slices"
	"strconv"
	"testing"

	"harrow/api"
	"harrow/ford"
	"harrow/rules"
)

// F4: Order tells all rules, each once and behind its heads, just if Check is OK.
func TestOrderTellsAllBehindTheirHeads(t *testing.T) {
	wellFormed := 0
	for _, g := range someGrammars(t) {
		_, want := ford.Check(g)
		order, e := ford.Order(g)
		if e != want {
			t.Fatalf("%s: Order says %v, Check %v", text(g), e, want)
		}
		if e != api.OK {
			continue
		}
		wellFormed++
		if sorted := slices.Sorted(slices.Values(order)); !slices.Equal(sorted, numbersFrom(0, len(g.Rules)-1)) {
			t.Fatalf("%s: not all rules, each once: %v", text(g), order)
		}
		for at, r := range order {
			heads, _ := ford.Heads(g, r)
			for _, h := range heads {
				if !slices.Contains(order[:at], h) {
					t.Fatalf("%s: %d is not behind its head %d: %v", text(g), r, h, order)
				}
			}
		}
	}
	if wellFormed < 80 {
		t.Error("too little was seen:", wellFormed)
	}
}

// F4: Heads and Loops say what Check says.
func TestHeadsAndLoopsSayWhatCheckSays(t *testing.T) {
	for _, g := range someGrammars(t) {
		var heads [][]int
		for r := range g.Rules {
			l, e := ford.Heads(g, r)
			if e != api.OK {
				t.Fatal(text(g), e)
			}
			heads = append(heads, l)
		}
		loops, e := ford.Loops(g)
		if e != api.OK {
			t.Fatal(text(g), e)
		}
		want, wrong := verdictBy(heads, loops)
		if v, e := ford.Check(g); told(v, e) != told(want, wrong) {
			t.Fatalf("%s: %s, by Heads and Loops %s", text(g), told(v, e), told(want, wrong))
		}
	}
}

// F4: a rule behind the others, with a new name and a right and well-formed pattern without calls, changes no verdict.
func TestRuleBehindTheOthers(t *testing.T) {
	x := newScramble()
	var late []api.Pattern
	for len(late) < 40 {
		p := x.pattern(1+x.below(8), nil)
		if _, e := ford.Check(grammar(rule("", p...))); e == api.OK {
			late = append(late, p)
		}
	}
	tried := 0
	for _, g := range someGrammars(t) {
		v, e := ford.Check(g)
		if g.Rules[0].Name == "" || len(g.Rules) == api.MaxRules {
			continue
		}
		for range 5 {
			h := api.Grammar{Rules: append(slices.Clone(g.Rules), rule("late", late[x.below(len(late))]...))}
			if _, wrong := rules.Check(h); wrong != api.OK {
				t.Fatal(text(h), wrong)
			}
			if w, f := ford.Check(h); told(w, f) != told(v, e) {
				t.Fatalf("%s: %s, ahead of the last rule %s", text(h), told(w, f), told(v, e))
			}
			asWords(t, h)
			tried++
		}
	}
	if tried < 500 {
		t.Error("too little was seen:", tried)
	}
}

// F4: names mean nothing.
func TestNamesMeanNothing(t *testing.T) {
	x := newScramble()
	for _, g := range someGrammars(t) {
		if g.Rules[0].Name == "" {
			continue
		}
		want := answerOf(t, g)
		fresh := map[string]string{}
		for i, r := range x.order(len(g.Rules)) {
			fresh[g.Rules[r].Name] = []string{"Z", "_", "a"}[i%3] + strconv.Itoa(i)
		}
		h := cloned(g)
		for r := range h.Rules {
			h.Rules[r].Name = fresh[h.Rules[r].Name]
			for at, n := range h.Rules[r].Body {
				if n.Op == api.PCall {
					h.Rules[r].Body[at].Text = fresh[n.Text]
				}
			}
		}
		if !sameAnswer(answerOf(t, h), want) {
			t.Fatalf("%s, with other names %v", text(g), text(h))
		}
		first, e := rules.Rename(g, 0, "another")
		if e != api.OK || !sameAnswer(answerOf(t, first), want) {
			t.Fatalf("%s, with another name for its first rule: %v", text(g), e)
		}
	}
	// The pattern alone, with and without a name.
	for _, text := range []string{"''*", "'a'", "('a'?)+ 'b'"} {
		if !sameAnswer(answerOf(t, read(t, text)), answerOf(t, read(t, "s <- "+text))) {
			t.Error(text)
		}
	}
}

// An answer is all that the four calls tell of a right grammar.
type answer struct {
	verdict api.Verdict
	wrong   api.Errno
	heads   [][]int
	loops   []api.Spot
	order   []int
}

func answerOf(t *testing.T, g api.Grammar) answer {
	t.Helper()
	var a answer
	a.verdict, a.wrong = ford.Check(g)
	for r := range g.Rules {
		l, e := ford.Heads(g, r)
		if e != api.OK {
			t.Fatal(text(g), e)
		}
		a.heads = append(a.heads, l)
	}
	a.loops, _ = ford.Loops(g)
	a.order, _ = ford.Order(g)
	return a
}

func sameAnswer(a, b answer) bool {
	return told(a.verdict, a.wrong) == told(b.verdict, b.wrong) && slices.EqualFunc(a.heads, b.heads, slices.Equal) && slices.Equal(a.loops, b.loops) && slices.Equal(a.order, b.order)
}

func cloned(g api.Grammar) api.Grammar {
	var h api.Grammar
	for _, x := range g.Rules {
		h.Rules = append(h.Rules, api.Rule{Name: x.Name, Body: slices.Clone(x.Body)})
	}
	return h
}

func sameRules(a, b []api.Rule) bool {
	return slices.EqualFunc(a, b, func(x, y api.Rule) bool {
		return x.Name == y.Name && slices.Equal(x.Body, y.Body)
	})
}

// roomy is a grammar whose lists have something else behind their lengths; the whole of its list of rules is answered beside it.
func roomy(g api.Grammar) (api.Grammar, []api.Rule) {
	var l []api.Rule
	for _, x := range g.Rules {
		whole := slices.Concat(x.Body, list(op(-1), op(api.PStar), call(x.Name), op(api.PPlus)))
		l = append(l, api.Rule{Name: x.Name, Body: whole[:len(x.Body)]})
	}
	n := len(l)
	l = append(l, rule("spare", call("spare"), op(api.PStar)), rule("1"))
	return api.Grammar{Rules: l[:n]}, l
}

// all copies rules with all that lies in their lists' room.
func all(l []api.Rule) []api.Rule {
	var c []api.Rule
	for _, x := range l {
		c = append(c, api.Rule{Name: x.Name, Body: slices.Clone(x.Body[:cap(x.Body)])})
	}
	return c
}

// R4: what is handed in stays as it is, and what lies behind a list's length is neither read nor written.
func TestWhatIsHandedInStays(t *testing.T) {
	for _, g := range someGrammars(t) {
		want := answerOf(t, cloned(g))
		given, room := roomy(g)
		before := all(room)
		if !sameAnswer(answerOf(t, given), want) {
			t.Fatal("the room behind was read:", text(g))
		}
		if l, e := ford.Heads(given, len(given.Rules)); len(l) != 0 || e != api.ErrRange {
			t.Fatal("the room behind was read:", l, e)
		}
		if !sameRules(all(room), before) {
			t.Fatal("what was handed in was changed:", text(g))
		}
	}
	// So it is of what is refused.
	given, room := roomy(grammar(rule("s", call("s"), call("spare"), op(api.PSeq))))
	before := all(room)
	refused(t, given, api.Spot{Node: 1}, api.ErrUnknown)
	if !sameRules(all(room), before) {
		t.Fatal("what was handed in was changed:", room)
	}
}

func spoil(l []int) {
	whole := l[:cap(l)]
	for i := range whole {
		whole[i] = -7
	}
}

// R4: what is written into an answer, and behind it, changes no other answer, no later one, and nothing that was handed in.
func TestAnswersAreNewMemory(t *testing.T) {
	for _, g := range someGrammars(t) {
		kept := cloned(g)
		want, first, second := answerOf(t, g), answerOf(t, g), answerOf(t, g)
		spoil(first.verdict.Cycle)
		spoil(first.order)
		for i := range first.loops[:cap(first.loops)] {
			first.loops[:cap(first.loops)][i] = api.Spot{Rule: -7, Node: -7}
		}
		for r := range first.heads {
			spoil(first.heads[r])
			if !slices.EqualFunc(first.heads[r+1:], want.heads[r+1:], slices.Equal) {
				t.Fatal("two answers lie in one another:", text(g))
			}
		}
		if !sameAnswer(second, want) {
			t.Fatal("two answers lie in one another:", text(g))
		}
		if !sameAnswer(answerOf(t, g), want) || !sameRules(g.Rules, kept.Rules) {
			t.Fatal("an answer is not alone:", text(g))
		}
	}
}

// R5, R7: a call tells nothing to the next one, refused or not.
func TestCallsTellEachOtherNothing(t *testing.T) {
	x := newScramble()
	g := read(t, "a <- b 'x' / c b <- 'y'? c c <- 'z' d <- (!a)* e")
	if _, e := ford.Check(g); e != api.ErrUnknown {
		t.Fatal(e)
	}
	g = read(t, "a <- b 'x' / c b <- 'y'? c c <- 'z' d <- (!a)*")
	want := answerOf(t, g)
	for i := range 300 {
		other := x.grammar(1+i%9, 8)
		before := answerOf(t, other)
		ford.Heads(g, 9)
		ford.Check(api.Grammar{})
		if !sameAnswer(answerOf(t, g), want) || !sameAnswer(answerOf(t, other), before) {
			t.Fatal("beside", other)
		}
	}
}
