package first_test

import (
	"slices"
	"testing"

	"harrow/api"
	"harrow/empty"
	"harrow/first"
	"harrow/tree"
)

// Grammars of all sorts that are right, well formed or not.
func someGrammars(t *testing.T) []api.Grammar {
	t.Helper()
	l := []api.Grammar{
		read(t, beside), read(t, "'a'* 'b'"), read(t, "s <- !s 'a'"), chain(200, call(nameOf(0))), chain(50, lit("yyy")),
		read(t, "a <- b 'x' b <- 'y' a / c d c <- 'p' d d <- e 'r' / 'qq' e <- c / f f <- 'f' f / 'f'"),
		read(t, "a <- b 'v' b <- c 'w' c <- d 'x' d <- e 'y' e <- a 'z' / 'u'?"),
	}
	x := newScramble()
	for i := range 500 {
		l = append(l, x.grammar(1+i%9, 1+i%11))
	}
	return append(l, x.grammar(200, 9))
}

// What follows from the tables of both layers: what is Empty is Nullable; what is HeadFail can fail, and is not Empty.
func TestWithWhatLayer9Knows(t *testing.T) {
	for _, g := range someGrammars(t) {
		for r := range g.Rules {
			l, e := first.Parts(g, r)
			known, f := empty.Parts(g, r)
			if e != api.OK || f != api.OK || len(l) != len(known) {
				t.Fatal(text(g), r, e, f)
			}
			for at, x := range l {
				if x.Empty && !known[at].Nullable || x.HeadFail && (x.Empty || !known[at].CanFail) {
					t.Fatalf("%s, %d at %d: %s, %v", text(g), r, at, told(x), known[at])
				}
			}
		}
	}
}

// 11.1, 11.2: what is known of a rule is what is known of its pattern, of a call of it, and the last of its Parts.
func TestRulesAreTheirPatterns(t *testing.T) {
	for _, g := range someGrammars(t) {
		l, _ := first.Rules(g)
		for r, x := range g.Rules {
			if len(g.Rules) > 50 && r%33 > 0 { // it would take long to ask for all
				continue
			}
			parts, _ := first.Parts(g, r)
			if last := parts[len(parts)-1]; l[r] != last {
				t.Fatalf("%s, %d: the rule is %s, the last of its Parts %s", text(g), r, told(l[r]), told(last))
			}
			if whole, e := first.Of(g, x.Body); whole != l[r] || e != api.OK {
				t.Fatalf("%s, %d: the rule is %s, Of its pattern %s, %v", text(g), r, told(l[r]), told(whole), e)
			}
			if x.Name == "" {
				continue
			}
			if called, e := first.Of(g, list(call(x.Name))); called != l[r] || e != api.OK {
				t.Fatalf("%s, %d: the rule is %s, a call of it %s, %v", text(g), r, told(l[r]), told(called), e)
			}
		}
	}
}

// 11.1, 11.2: each of the Parts is what Of says of that part.
func TestPartsAreWhatOfSays(t *testing.T) {
	for i, g := range someGrammars(t) {
		if i%5 > 0 || len(g.Rules) > 50 {
			continue
		}
		for r, x := range g.Rules {
			parts, _ := first.Parts(g, r)
			for at := range x.Body {
				part, _ := tree.Part(x.Body, at)
				if y, e := first.Of(g, part); y != parts[at] || e != api.OK {
					t.Fatalf("%s, %d at %d: Of %s, %v, in Parts %s", text(g), r, at, told(y), e, told(parts[at]))
				}
			}
		}
	}
}

// An answer is all that the four calls tell of a grammar.
type answer struct {
	rules   []api.Firsts
	parts   [][]api.Firsts
	of      []api.Firsts
	decided []bool
}

func answerOf(t *testing.T, g api.Grammar) answer {
	t.Helper()
	var a answer
	var e api.Errno
	if a.rules, e = first.Rules(g); e != api.OK {
		t.Fatal(text(g), e)
	}
	for r, x := range g.Rules {
		if len(g.Rules) > 50 && r%33 > 0 { // it would take long to ask for all
			continue
		}
		parts, e := first.Parts(g, r)
		a.parts = append(a.parts, parts)
		y, f := first.Of(g, x.Body)
		is, h := first.Decided(g, x.Body, g.Rules[0].Body)
		if e != api.OK || f != api.OK || h != api.OK {
			t.Fatal(text(g), e, f, h)
		}
		a.of = append(a.of, y)
		a.decided = append(a.decided, is)
	}
	return a
}

func sameAnswer(a, b answer) bool {
	return slices.Equal(a.rules, b.rules) && slices.EqualFunc(a.parts, b.parts, slices.Equal) && slices.Equal(a.of, b.of) && slices.Equal(a.decided, b.decided)
}

func cloned(g api.Grammar) api.Grammar {
	var h api.Grammar
	for _, x := range g.Rules {
		h.Rules = append(h.Rules, api.Rule{Name: x.Name, Body: slices.Clone(x.Body)})
	}
	return h
}

func sameRules(a, b []api.Rule) bool {
	return slices.EqualFunc(a, b, func(x, y api.Rule) bool {
		return x.Name == y.Name && slices.Equal(x.Body, y.Body)
	})
}

// roomy is a grammar whose lists have something else behind their lengths; the whole of its list of rules is answered beside it.
func roomy(g api.Grammar) (api.Grammar, []api.Rule) {
	var l []api.Rule
	for _, x := range g.Rules {
		whole := slices.Concat(x.Body, list(op(-1), call("spare"), op(api.POpt)))
		l = append(l, api.Rule{Name: x.Name, Body: whole[:len(x.Body)]})
	}
	n := len(l)
	l = append(l, rule("1"), rule("spare", op(-1)))
	return api.Grammar{Rules: l[:n]}, l
}

// all copies rules with all that lies in their lists' room.
func all(l []api.Rule) []api.Rule {
	var c []api.Rule
	for _, x := range l {
		c = append(c, api.Rule{Name: x.Name, Body: slices.Clone(x.Body[:cap(x.Body)])})
	}
	return c
}

// R4: what is handed in stays as it is, and what lies behind a list's length is neither read nor written.
func TestWhatIsHandedInStays(t *testing.T) {
	for i, g := range someGrammars(t) {
		if i%3 > 0 {
			continue
		}
		want := answerOf(t, cloned(g))
		given, room := roomy(g)
		before := all(room)
		if !sameAnswer(answerOf(t, given), want) {
			t.Fatal("the room behind was read:", text(g))
		}
		ofRefused(t, given, list(call("spare")), api.ErrUnknown)
		partsRefused(t, given, len(given.Rules), api.ErrRange)
		whole := list(lit("a"), op(api.PStar), op(api.PNot), call("nobody"), op(-1))
		other := list(lit("b"), lit("c"), op(api.PChoice), call("nobody"), op(-1))
		p, q := whole[:2], other[:3]
		if x, e := first.Of(given, p); told(x) != "[a] e" || e != api.OK {
			t.Fatal("the room behind was read:", told(x), e)
		}
		if is, e := first.Decided(given, q, p); !is || e != api.OK {
			t.Fatal("the room behind was read:", is, e)
		}
		if is, e := first.Decided(given, p, q); is || e != api.OK {
			t.Fatal("the room behind was read:", is, e)
		}
		if !slices.Equal(whole, list(lit("a"), op(api.PStar), op(api.PNot), call("nobody"), op(-1))) || !slices.Equal(other, list(lit("b"), lit("c"), op(api.PChoice), call("nobody"), op(-1))) {
			t.Fatal("a pattern was changed:", whole, other)
		}
		if !sameRules(all(room), before) {
			t.Fatal("what was handed in was changed:", text(g))
		}
	}
	// So it is of what is refused, and of patterns that call rules.
	given, room := roomy(grammar(rule("s", call("s"), call("spare"), op(api.PSeq))))
	before := all(room)
	rulesRefused(t, given, api.ErrUnknown)
	partsRefused(t, given, 0, api.ErrUnknown)
	decidedRefused(t, given, room[0].Body, room[0].Body, api.ErrUnknown)
	if !sameRules(all(room), before) {
		t.Fatal("what was handed in was changed:", room)
	}
	called := list(call("t"), call("w"), op(api.PSeq), call("v"), op(api.PChoice))
	kept := slices.Clone(called)
	patternKnown(t, called, "[xy] -")
	if is, e := first.Decided(read(t, beside), called, called); is || e != api.OK || !slices.Equal(called, kept) {
		t.Fatal("a pattern was changed:", is, e, called)
	}
}

// spoil writes into a list, and into its spare room.
func spoil(l []api.Firsts) {
	whole := l[:cap(l)]
	for i := range whole {
		whole[i] = api.Firsts{Set: api.Set{7, 7, 7, ^whole[i].Set[3]}, Empty: !whole[i].Empty, HeadFail: !whole[i].HeadFail}
	}
}

// R4: what is written into an answer, and behind it, changes no other answer, no later one, and nothing that was handed in.
func TestAnswersAreNewMemory(t *testing.T) {
	for i, g := range someGrammars(t) {
		if i%3 > 0 {
			continue
		}
		kept := cloned(g)
		want := answerOf(t, g)
		one, other := answerOf(t, g), answerOf(t, g)
		spoil(one.rules)
		for r := range one.parts {
			spoil(one.parts[r])
			if !slices.EqualFunc(one.parts[r+1:], want.parts[r+1:], slices.Equal) {
				t.Fatal("two answers lie in one another:", text(g))
			}
		}
		if !sameAnswer(other, want) {
			t.Fatal("two answers lie in one another:", text(g))
		}
		if !sameAnswer(answerOf(t, g), want) || !sameRules(g.Rules, kept.Rules) {
			t.Fatal("an answer is not alone:", text(g))
		}
	}
}

// R5, R7: a call tells nothing to the next one, refused or not.
func TestCallsTellEachOtherNothing(t *testing.T) {
	x := newScramble()
	g := read(t, "s <- 'a' s / %e t <- 'ab'^2 'c'? u <- u 'a'")
	want := answerOf(t, g)
	for i := range 300 {
		other := x.grammar(1+i%9, 8)
		before := answerOf(t, other)
		first.Of(g, list(call("nobody")))
		first.Parts(g, 9)
		first.Decided(g, list(call("s")), nil)
		first.Rules(api.Grammar{})
		if !sameAnswer(answerOf(t, g), want) || !sameAnswer(answerOf(t, other), before) {
			t.Fatal("beside", text(other))
		}
	}
}
