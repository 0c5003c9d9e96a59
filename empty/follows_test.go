package empty_test

import (
	"math"
	"slices"
	"testing"

	"harrow/api"
	"harrow/empty"
	"harrow/rules"
	"harrow/tree"
)

// Grammars of all sorts that are right, well formed or not.
func someGrammars(t *testing.T) []api.Grammar {
	t.Helper()
	l := []api.Grammar{
		read(t, beside), read(t, "'a'* 'b'"), read(t, "s <- !s 'a'"), ring(200, ""), ring(50, "yyy"),
		read(t, "a <- b 'x' b <- 'y' a / c d c <- 'p' d d <- e 'r' / 'qq' e <- c / f f <- 'f' f / 'f'"),
		read(t, "s <- "+justAt+" t / u t <- 'a' s / "+justUnder+" u <- t 'aa' / &s"),
	}
	x := newScramble()
	for i := range 500 {
		l = append(l, x.grammar(1+i%9, 1+i%11, 51))
	}
	return append(l, x.grammar(200, 9, 51))
}

// 9.4: Least is 0 just where Nullable is true; it is not above Most, where both are numbers. No length is told but numbers up to MaxLength, and -1.
func fits(t *testing.T, x api.Emptiness) {
	t.Helper()
	if x.Nullable != (x.Least == 0) {
		t.Errorf("%s: Least and Nullable", told(x))
	}
	if x.Least != -1 && x.Most != -1 && x.Least > x.Most {
		t.Errorf("%s: Least and Most", told(x))
	}
	if min(x.Least, x.Most) < -1 || max(x.Least, x.Most) > api.MaxLength {
		t.Errorf("%s: out of all lengths", told(x))
	}
}

// 9.4
func TestLengthsFit(t *testing.T) {
	for _, g := range someGrammars(t) {
		l, _ := empty.Rules(g)
		for r := range g.Rules {
			fits(t, l[r])
			parts, _ := empty.Parts(g, r)
			for _, x := range parts {
				fits(t, x)
			}
		}
		if t.Failed() {
			t.Fatal(g)
		}
	}
}

// 9.4: what is known of a rule is what is known of its pattern, and the last of its Parts, and of a call of it; but Most of rules that come to themselves, which is no bound.
func TestRulesAreTheirPatterns(t *testing.T) {
	for _, g := range someGrammars(t) {
		l, _ := empty.Rules(g)
		again, _ := rules.Again(g)
		for r, x := range g.Rules {
			parts, _ := empty.Parts(g, r)
			last := parts[len(parts)-1]
			if whole, e := empty.Of(g, x.Body); whole != last || e != api.OK {
				t.Fatalf("%v, %d: Of %s, %v, the last of its Parts %s", g, r, told(whole), e, told(last))
			}
			if again[r] {
				last.Most = -1
			}
			if l[r] != last {
				t.Fatalf("%v, %d: the rule is %s, the last of its Parts %s", g, r, told(l[r]), told(last))
			}
			if x.Name == "" {
				continue
			}
			if called, e := empty.Of(g, list(call(x.Name))); called != l[r] || e != api.OK {
				t.Fatalf("%v, %d: the rule is %s, a call of it %s, %v", g, r, told(l[r]), told(called), e)
			}
		}
	}
}

// 9.2: each of the Parts is what Of says of that part.
func TestPartsAreWhatOfSays(t *testing.T) {
	for i, g := range someGrammars(t) {
		if i%5 > 0 || len(g.Rules) > 50 {
			continue
		}
		for r, x := range g.Rules {
			parts, _ := empty.Parts(g, r)
			for at := range x.Body {
				part, _ := tree.Part(x.Body, at)
				if y, e := empty.Of(g, part); y != parts[at] || e != api.OK {
					t.Fatalf("%v, %d at %d: Of %s, %v, in Parts %s", g, r, at, told(y), e, told(parts[at]))
				}
			}
		}
	}
}

// An answer is all that the three calls tell of a grammar.
type answer struct {
	rules []api.Emptiness
	parts [][]api.Emptiness
	of    []api.Emptiness
}

func answerOf(t *testing.T, g api.Grammar) answer {
	t.Helper()
	var a answer
	var e api.Errno
	if a.rules, e = empty.Rules(g); e != api.OK {
		t.Fatal(g, e)
	}
	for r, x := range g.Rules {
		parts, e := empty.Parts(g, r)
		y, f := empty.Of(g, x.Body)
		if e != api.OK || f != api.OK {
			t.Fatal(g, e, f)
		}
		a.parts = append(a.parts, parts)
		a.of = append(a.of, y)
	}
	return a
}

func sameAnswer(a, b answer) bool {
	return slices.Equal(a.rules, b.rules) && slices.EqualFunc(a.parts, b.parts, slices.Equal) && slices.Equal(a.of, b.of)
}

// roomy is a grammar whose lists have something else behind their lengths; the whole of its lists is answered beside it.
func roomy(g api.Grammar) (api.Grammar, []api.Rule) {
	var l []api.Rule
	for _, x := range g.Rules {
		whole := slices.Concat(x.Body, list(op(-1), call("spare"), op(api.POpt)))
		l = append(l, api.Rule{Name: x.Name, Body: whole[:len(x.Body)]})
	}
	n := len(l)
	l = append(l, rule("1"), rule("spare", op(-1)))
	return api.Grammar{Rules: l[:n]}, l
}

// all copies rules with all that lies in their lists' room.
func all(l []api.Rule) []api.Rule {
	var c []api.Rule
	for _, x := range l {
		c = append(c, api.Rule{Name: x.Name, Body: slices.Clone(x.Body[:cap(x.Body)])})
	}
	return c
}

// R4: what is handed in stays as it is, and what lies behind a list's length is neither read nor written.
func TestWhatIsHandedInStays(t *testing.T) {
	for i, g := range someGrammars(t) {
		if i%3 > 0 {
			continue
		}
		want := answerOf(t, cloned(g))
		given, room := roomy(g)
		before := all(room)
		if !sameAnswer(answerOf(t, given), want) {
			t.Fatal("the room behind was read:", g)
		}
		ofRefused(t, given, list(call("spare")), api.ErrUnknown)
		partsRefused(t, given, len(given.Rules), api.ErrRange)
		whole := list(lit("a"), op(api.PStar), op(api.PNot), call("nobody"), op(-1))
		if x, e := empty.Of(given, whole[:2]); told(x) != "n 0 many" || e != api.OK {
			t.Fatal("the room behind was read:", told(x), e)
		}
		if !slices.Equal(whole, list(lit("a"), op(api.PStar), op(api.PNot), call("nobody"), op(-1))) {
			t.Fatal("a pattern was changed:", whole)
		}
		if !sameGrammar(api.Grammar{Rules: all(room)}, api.Grammar{Rules: before}) {
			t.Fatal("what was handed in was changed:", g)
		}
	}
}

func spoil(l []api.Emptiness) {
	whole := l[:cap(l)]
	for i := range whole {
		whole[i] = api.Emptiness{Nullable: !whole[i].Nullable, CanFail: !whole[i].CanFail, Least: -7, Most: -7}
	}
}

// R4: what is written into an answer, and behind it, changes no other answer, no later one, and nothing that was handed in.
func TestAnswersAreNewMemory(t *testing.T) {
	for i, g := range someGrammars(t) {
		if i%3 > 0 {
			continue
		}
		kept := cloned(g)
		want := answerOf(t, g)
		first, second := answerOf(t, g), answerOf(t, g)
		spoil(first.rules)
		for r := range first.parts {
			spoil(first.parts[r])
			if !slices.EqualFunc(first.parts[r+1:], want.parts[r+1:], slices.Equal) {
				t.Fatal("two answers lie in one another:", g)
			}
		}
		if !sameAnswer(second, want) {
			t.Fatal("two answers lie in one another:", g)
		}
		if !sameAnswer(answerOf(t, g), want) || !sameGrammar(g, kept) {
			t.Fatal("an answer is not alone:", g)
		}
	}
}

// R3: a list without an element may be nil or empty.
func TestNilAndEmpty(t *testing.T) {
	g := read(t, beside)
	for _, p := range []api.Pattern{nil, {}} {
		ofRefused(t, g, p, api.ErrParts)
		rulesRefused(t, grammar(rule("s", p...)), api.ErrParts)
	}
	for _, l := range [][]api.Rule{nil, {}} {
		rulesRefused(t, api.Grammar{Rules: l}, api.ErrShape)
		ofRefused(t, api.Grammar{Rules: l}, nil, api.ErrShape)
		partsRefused(t, api.Grammar{Rules: l}, 0, api.ErrShape)
	}
}

// R5, R7: a call tells nothing to the next one, refused or not.
func TestCallsTellEachOtherNothing(t *testing.T) {
	x := newScramble()
	g := read(t, "s <- 'a' s / %e t <- 'ab'^2 'c'? u <- u 'a'")
	want := answerOf(t, g)
	for i := range 300 {
		other := x.grammar(1+i%9, 8, 51)
		before := answerOf(t, other)
		empty.Of(g, list(call("nobody")))
		empty.Parts(g, 9)
		empty.Rules(api.Grammar{})
		if !sameAnswer(answerOf(t, g), want) || !sameAnswer(answerOf(t, other), before) {
			t.Fatal("beside", other)
		}
	}
}

// P1: whatever is handed in, each call ends; and what it refuses is what layers 8 and 4 refuse.
func TestCallsEnd(t *testing.T) {
	x := newScramble()
	extremes := []int{math.MinInt, math.MinInt32, -1, 0, 1, 50, 51, 200, 1 << 31, math.MaxInt}
	right := read(t, beside)
	for i := range 3000 {
		g := x.grammar(1+i%5, 8, 51)
		for range x.below(3) {
			body := g.Rules[x.below(len(g.Rules))].Body
			n := &body[x.below(len(body))]
			switch x.below(4) {
			case 0:
				n.Op = extremes[x.below(len(extremes))]
			case 1:
				n.N = extremes[x.below(len(extremes))]
			case 2:
				n.Text = times("\xff", x.below(300))
			case 3:
				n.Set[x.below(4)] = math.MaxUint64
			}
		}
		if _, want := rules.Check(g); want != api.OK {
			rulesRefused(t, g, want)
			partsRefused(t, g, i%9-1, want)
			ofRefused(t, g, g.Rules[0].Body, want)
		} else {
			asModel(t, g, byOpenRules(g))
		}
		for _, y := range g.Rules {
			_, want := tree.Check(y.Body)
			if _, e := empty.Of(right, y.Body); e != want && e != api.ErrUnknown {
				t.Fatal(y.Body, e, want)
			}
		}
	}
	huge := times("x", 1<<22)
	ofRefused(t, right, list(call(huge)), api.ErrField)
	ofRefused(t, right, list(lit(huge)), api.ErrField)
	rulesRefused(t, grammar(rule(huge, call(huge))), api.ErrText)
}
