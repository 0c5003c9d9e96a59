package show_test

import (
	"slices"
	"strconv"
	"testing"

	"harrow/api"
	"harrow/show"
)

func shownGrammar(t *testing.T, want string, l ...api.Rule) {
	t.Helper()
	if s, e := show.Grammar(api.Grammar{Rules: l}); s != want || e != api.OK {
		t.Errorf("Grammar of %d rules: %s, %v, want %s", len(l), short(s), e, short(want))
	}
}

func refusedGrammar(t *testing.T, want api.Errno, l ...api.Rule) {
	t.Helper()
	if s, e := show.Grammar(api.Grammar{Rules: l}); s != "" || e != want {
		t.Errorf("Grammar of %d rules: %s, %v, want %v", len(l), short(s), e, want)
	}
}

// 7.2: a line for each rule; of a pattern alone just its text.
func TestGrammars(t *testing.T) {
	a, s, e := lit("a"), call("s"), op(api.PEmpty)
	shownGrammar(t, "s <- 'a' s / %e\n", rule("s", a, s, op(api.PSeq), e, op(api.PChoice)))
	shownGrammar(t, "s <- 'a' s / t\nt <- .\n", rule("s", a, s, op(api.PSeq), call("t"), op(api.PChoice)), rule("t", op(api.PAny)))
	shownGrammar(t, "'a'\n", rule("", a))
	shownGrammar(t, "s\n", rule("", s))
	shownGrammar(t, "'a' s / %e\n", rule("", a, s, op(api.PSeq), e, op(api.PChoice)))
	shownGrammar(t, "a <- {:k: s :}\nb <- !'a'\n_9 <- {}\n", rule("a", s, group("k")), rule("b", a, op(api.PNot)), rule("_9", op(api.PPlace)))
}

// 7.2: names may stand twice, or be unknown.
func TestGrammarsOfAnyNames(t *testing.T) {
	shownGrammar(t, "a <- nowhere\n", rule("a", call("nowhere")))
	shownGrammar(t, "a <- a\na <- a\n", rule("a", call("a")), rule("a", call("a")))
	shownGrammar(t, "a <- .\nb <- .\na <- .\n", rule("a", op(api.PAny)), rule("b", op(api.PAny)), rule("a", op(api.PAny)))
}

// 7.2: there must be a rule.
func TestNoRule(t *testing.T) {
	refusedGrammar(t, api.ErrShape)
	if s, e := show.Grammar(api.Grammar{Rules: []api.Rule{}}); s != "" || e != api.ErrShape {
		t.Error(s, e)
	}
	// What lies behind the list's length is not looked at.
	l := []api.Rule{rule("a", op(api.PAny))}
	if s, e := show.Grammar(api.Grammar{Rules: l[:0]}); s != "" || e != api.ErrShape {
		t.Error(s, e)
	}
}

func manyRules(n int) []api.Rule {
	var l []api.Rule
	for i := range n {
		l = append(l, rule("r"+strconv.Itoa(i), op(api.PAny)))
	}
	return l
}

// 7.2: MaxRules rules are told, more are not, whatever they are.
func TestMostRules(t *testing.T) {
	want := ""
	for i := range 200 {
		want += "r" + strconv.Itoa(i) + " <- .\n"
	}
	shownGrammar(t, want, manyRules(200)...)
	for _, n := range []int{201, 202, 1000, 5000} {
		refusedGrammar(t, api.ErrLong, manyRules(n)...)
	}
	refusedGrammar(t, api.ErrLong, append([]api.Rule{rule("", op(0))}, manyRules(200)...)...)
	refusedGrammar(t, api.ErrLong, append([]api.Rule{rule("1")}, manyRules(200)...)...)
	refusedGrammar(t, api.ErrText, append([]api.Rule{rule("1")}, manyRules(199)...)...)
	refusedGrammar(t, api.ErrText, append(manyRules(199), rule("1"))...)
}

// 7.2: each byte at the front of a name and farther on; the longest name.
func TestNamesOfRules(t *testing.T) {
	any := op(api.PAny)
	for b := range 256 {
		c := byte(b)
		one := string([]byte{c})
		letter := c >= 'a' && c <= 'z' || c >= 'A' && c <= 'Z' || c == '_'
		digit := c >= '0' && c <= '9'
		for name, right := range map[string]bool{one: letter, one + "x": letter, "x" + one: letter || digit, "x" + one + "y": letter || digit} {
			if right {
				shownGrammar(t, name+" <- .\n", rule(name, any))
				shownGrammar(t, "a <- .\n"+name+" <- .\n", rule("a", any), rule(name, any))
			} else {
				refusedGrammar(t, api.ErrText, rule(name, any))
				refusedGrammar(t, api.ErrText, rule("a", any), rule(name, any))
			}
		}
	}
	most := times("n", 32)
	shownGrammar(t, most+" <- .\n", rule(most, any))
	for _, name := range []string{most + "n", most + "1", times("n", 300), times("n", 1<<20), "\xce\xb1", "a b", "a ", " a", "a\n", "a <- b"} {
		refusedGrammar(t, api.ErrText, rule(name, any))
		refusedGrammar(t, api.ErrText, rule("a", any), rule(name, any), rule("b", any))
	}
}

// 7.2: an empty name stands alone, or not at all.
func TestEmptyNames(t *testing.T) {
	any := op(api.PAny)
	shownGrammar(t, ".\n", rule("", any))
	refusedGrammar(t, api.ErrText, rule("", any), rule("", any))
	refusedGrammar(t, api.ErrText, rule("", any), rule("a", any))
	refusedGrammar(t, api.ErrText, rule("a", any), rule("", any))
	refusedGrammar(t, api.ErrText, rule("a", any), rule("", any), rule("b", any))
}

// 7.2: each thing that layer 4's Check refuses, of a pattern alone, and of any rule among others.
func TestWrongRules(t *testing.T) {
	any, a := op(api.PAny), lit("a")
	for _, x := range []struct {
		e api.Errno
		p api.Pattern
	}{
		{api.ErrParts, nil}, {api.ErrParts, list()}, {api.ErrParts, list(op(api.PStar))}, {api.ErrParts, list(a, a)},
		{api.ErrOp, list(op(0))}, {api.ErrOp, list(op(24))}, {api.ErrField, list(lit(""))}, {api.ErrField, list(a, template("%"))}, {api.ErrField, list(a, number(api.PMost, 51))},
		{api.ErrDeep, tower(60, op(api.PStar), a)}, {api.ErrLong, row(api.PSeq, 1024, a)},
	} {
		refusedGrammar(t, x.e, rule("", x.p...))
		refusedGrammar(t, x.e, rule("s", x.p...))
		refusedGrammar(t, x.e, rule("s", x.p...), rule("b", any))
		refusedGrammar(t, x.e, rule("b", any), rule("s", x.p...))
		refusedGrammar(t, x.e, rule("b", any), rule("s", x.p...), rule("c", any))
		// Of one rule the name comes first; of several rules the first one that is wrong.
		refusedGrammar(t, api.ErrText, rule("1", x.p...))
		refusedGrammar(t, api.ErrText, rule("", x.p...), rule("b", any))
		refusedGrammar(t, api.ErrText, rule("b", any), rule("", x.p...))
		refusedGrammar(t, api.ErrText, rule("1", any), rule("b", x.p...))
		refusedGrammar(t, x.e, rule("b", x.p...), rule("1", any))
		refusedGrammar(t, x.e, rule("b", x.p...), rule("", op(0)))
		refusedGrammar(t, x.e, rule("b", x.p...), rule("c", op(0)))
		refusedGrammar(t, api.ErrOp, rule("b", op(0)), rule("c", x.p...))
	}
}

// 7.2: all patterns have at most MaxNodes nodes together; the rule with which they have more is wrong.
func TestAllNodesTogether(t *testing.T) {
	any := op(api.PAny)
	most, star := row(api.PSeq, 1023, any), op(api.PStar) // 2047 nodes
	text := "." + times(" .", 1023)
	shownGrammar(t, "("+text+")*\n", rule("", append(slices.Clone(most), star)...))
	shownGrammar(t, "a <- "+text+"\nb <- .\n", rule("a", most...), rule("b", any))
	shownGrammar(t, "b <- .\na <- "+text+"\n", rule("b", any), rule("a", most...))
	refusedGrammar(t, api.ErrLong, rule("a", most...), rule("b", any, star))
	refusedGrammar(t, api.ErrLong, rule("b", any, star), rule("a", most...))
	refusedGrammar(t, api.ErrLong, rule("a", most...), rule("b", any), rule("c", any))
	refusedGrammar(t, api.ErrLong, rule("a", most...), rule("a", most...))

	// 200 rules of 10 nodes, and one that has 58 of them.
	l := slices.Repeat([]api.Rule{rule("r", tower(9, star, any)...)}, 200)
	l[77] = rule("r", tower(57, star, any)...)
	grammarAsModel(t, api.Grammar{Rules: l})
	if s, e := show.Grammar(api.Grammar{Rules: l}); e != api.OK || len(s) != 200*7+199*9+57 {
		t.Error(len(s), e)
	}
	l[78] = rule("r", tower(10, star, any)...)
	refusedGrammar(t, api.ErrLong, l...)

	// It comes behind what is wrong with the rule itself, and ahead of what is wrong with the next one.
	refusedGrammar(t, api.ErrText, rule("a", most...), rule("1", any, star))
	refusedGrammar(t, api.ErrParts, rule("a", most...), rule("b", any, any))
	refusedGrammar(t, api.ErrDeep, rule("a", most...), rule("b", tower(60, star, any)...))
	refusedGrammar(t, api.ErrLong, rule("a", most...), rule("b", any, star), rule("1", any))
	refusedGrammar(t, api.ErrLong, rule("a", most...), rule("b", any, star), rule("c", op(0)))
	refusedGrammar(t, api.ErrText, rule("a", most...), rule("b", any), rule("1", any))
	refusedGrammar(t, api.ErrOp, rule("a", most...), rule("b", any), rule("c", op(0)))
}

// 7.2: a grammar's text of MaxText bytes is told, one of more is not: names, arrows and line feeds count.
func TestLongestGrammar(t *testing.T) {
	sized := func(want int, l ...api.Rule) {
		t.Helper()
		s, e := show.Grammar(api.Grammar{Rules: l})
		if want <= 65536 && (len(s) != want || e != api.OK) || want > 65536 && (s != "" || e != api.ErrLong) {
			t.Errorf("a text of %d bytes: %d, %v", want, len(s), e)
		}
		grammarAsModel(t, api.Grammar{Rules: l})
	}
	for n := 65533; n <= 65542; n++ {
		sized(n, rule("", rowOfBytes(n-1)...))
		sized(n, rule("s", rowOfBytes(n-6)...))
		sized(n, rule(times("n", 32), rowOfBytes(n-37)...))
		sized(n, rule("s", rowOfBytes(n-13)...), rule("t", op(api.PAny)))
		sized(n, rule("s", op(api.PAny)), rule("t", rowOfBytes(n-13)...))
	}
	// What is wrong with any rule comes ahead of it.
	long := rowOfBytes(65700)
	refusedGrammar(t, api.ErrLong, rule("s", long...))
	refusedGrammar(t, api.ErrText, rule("s", long...), rule("1", op(api.PAny)))
	refusedGrammar(t, api.ErrText, rule("s", long...), rule("", op(api.PAny)))
	refusedGrammar(t, api.ErrParts, rule("s", long...), rule("t"))
	refusedGrammar(t, api.ErrOp, rule("s", long...), rule("t", op(0)))
}

// 7.2: grammars without any order in them, right and wrong ones, and ones that are wrong in more than one way.
func TestScrambledGrammars(t *testing.T) {
	x := newScramble()
	for i := range 3000 {
		g := x.grammar(i % 7)
		grammarAsModel(t, g)
		for range 1 + x.below(3) {
			r := &g.Rules[x.below(len(g.Rules))]
			if len(r.Body) == 0 {
				continue
			}
			switch x.below(5) {
			case 0:
				r.Name = x.oneOf("", "1", "a b", "a-", times("n", 33), "$", "\x00", "--", "'a'")
			case 1:
				r.Body = r.Body[1:]
			case 2:
				r.Body = append(r.Body, op(x.below(26)-1))
			case 3:
				r.Body[x.below(len(r.Body))].N += x.below(60)
			case 4:
				r.Body = tower(59, op(api.PSub), r.Body...)
			}
		}
		grammarAsModel(t, g)
	}
}
