package empty_test

import (
	"math"
	"testing"

	"harrow/api"
	"harrow/empty"
	"harrow/rules"
	"harrow/tree"
)

// R5: beside an error nothing is told.
func rulesRefused(t *testing.T, g api.Grammar, want api.Errno) {
	t.Helper()
	if l, e := empty.Rules(g); len(l) != 0 || e != want {
		t.Errorf("Rules: %v, %v, want %v", l, e, want)
	}
}

func ofRefused(t *testing.T, g api.Grammar, p api.Pattern, want api.Errno) {
	t.Helper()
	if x, e := empty.Of(g, p); x != (api.Emptiness{}) || e != want {
		t.Errorf("Of: %v, %v, want %v", x, e, want)
	}
}

func partsRefused(t *testing.T, g api.Grammar, r int, want api.Errno) {
	t.Helper()
	if l, e := empty.Parts(g, r); len(l) != 0 || e != want {
		t.Errorf("Parts(%d): %v, %v, want %v", r, l, e, want)
	}
}

func wrongPatterns() map[api.Errno][]api.Pattern {
	return map[api.Errno][]api.Pattern{
		api.ErrLong:  {append(row(api.PSeq, 1023, op(api.PAny)), op(api.POpt), op(api.POpt)), row(api.PSeq, 1024, call("nobody"))},
		api.ErrOp:    {list(op(0)), list(op(24)), list(op(-1)), list(op(math.MaxInt)), list(call("nobody"), op(24))},
		api.ErrField: {list(lit("")), list(lit(times("a", 256))), list(call("")), list(call("1x")), list(call(times("n", 33))), list(op(api.PAny), counted(api.PTimes, 51)), list(op(api.PAny), counted(api.PMost, -1)), list(counted(api.PAny, 1)), list(call("nobody"), api.Node{Op: api.PString, Text: "%"})},
		api.ErrParts: {nil, {}, list(op(api.PStar)), list(op(api.PAny), op(api.PSeq)), list(op(api.PAny), op(api.PAny)), list(call("nobody"), call("nobody"))},
		api.ErrDeep:  {tower(60, op(api.PNot), op(api.PAny)), tower(60, op(api.PNot), call("nobody"))},
	}
}

// What is wrong with a grammar, each in a way of its own.
func wrongGrammars() map[api.Errno][]api.Grammar {
	right := rule("s", op(api.PAny))
	wrong := map[api.Errno][]api.Grammar{
		api.ErrShape:   {{}, {Rules: []api.Rule{}}},
		api.ErrText:    {grammar(rule("1x", op(api.PAny))), grammar(right, rule("", op(api.PAny))), grammar(rule("", op(api.PAny)), right), grammar(right, rule(times("n", 33), op(api.PAny)))},
		api.ErrTwice:   {grammar(right, right), grammar(right, rule("t", call("s")), right)},
		api.ErrUnknown: {grammar(rule("s", call("t"))), grammar(rule("", call("s"))), grammar(right, rule("t", call("s"), call("nobody"), op(api.PSeq)))},
	}
	many := ring(200, "")
	many.Rules = append(many.Rules, right)
	wrong[api.ErrLong] = append(wrong[api.ErrLong], many, grammar(right, rule("t", append(row(api.PSeq, 1023, op(api.PAny)), op(api.POpt))...)))
	for e, patterns := range wrongPatterns() {
		for _, p := range patterns {
			wrong[e] = append(wrong[e], grammar(rule("s", p...)), grammar(right, rule("t", p...)), grammar(right, rule("t", p...), right))
		}
	}
	return wrong
}

// 9.1, 9.2: what layer 8's Check refuses of the grammar, ahead of all else that is wrong.
func TestWrongGrammars(t *testing.T) {
	for want, grammars := range wrongGrammars() {
		for _, g := range grammars {
			if _, e := rules.Check(g); e != want {
				t.Fatalf("Check(%v): %v, want %v", g, e, want)
			}
			rulesRefused(t, g, want)
			ofRefused(t, g, list(op(api.PAny)), want)
			ofRefused(t, g, list(call("s")), want)
			ofRefused(t, g, list(call("nobody")), want)
			for _, patterns := range wrongPatterns() {
				for _, p := range patterns {
					ofRefused(t, g, p, want)
				}
			}
			for _, r := range []int{math.MinInt, -1, 0, len(g.Rules) - 1, len(g.Rules), math.MaxInt} {
				partsRefused(t, g, r, want)
			}
		}
	}
}

// 9.2: what layer 4's Check refuses of the pattern, ahead of a name that no rule has.
func TestWrongPatterns(t *testing.T) {
	grammars := []api.Grammar{read(t, beside), read(t, "'a'"), ring(200, "")}
	for want, patterns := range wrongPatterns() {
		for _, p := range patterns {
			if _, e := tree.Check(p); e != want {
				t.Fatalf("Check(%v): %v, want %v", p, e, want)
			}
			for _, g := range grammars {
				ofRefused(t, g, p, want)
			}
		}
	}
}

// 9.2: a call of a name that no rule has, alone, behind others and ahead of them, in any node, whether it counts there or not.
func TestUnknownNames(t *testing.T) {
	g := read(t, beside)
	for _, name := range []string{"q", "S", "ss", "s_", "nobody", times("s", 32)} {
		ofRefused(t, g, list(call(name)), api.ErrUnknown)
		ofRefused(t, g, list(call("s"), call(name), op(api.PSeq)), api.ErrUnknown)
		ofRefused(t, g, list(call(name), call("s"), op(api.PSeq)), api.ErrUnknown)
		ofRefused(t, g, list(call("s"), call("t"), op(api.PSeq), call("w"), op(api.PChoice), call(name), op(api.PChoice)), api.ErrUnknown)
		ofRefused(t, g, list(call(name), counted(api.PTimes, 0)), api.ErrUnknown)
		ofRefused(t, g, list(op(api.PEmpty), call(name), op(api.PChoice)), api.ErrUnknown)
		ofRefused(t, g, list(call(name), op(api.PNot), call("s"), op(api.PSeq)), api.ErrUnknown)
		ofRefused(t, g, tower(59, op(api.PAnd), call(name)), api.ErrUnknown)
		ofRefused(t, g, append(row(api.PSeq, 1022, call("s")), call(name), op(api.PChoice)), api.ErrUnknown)
	}
	// A pattern alone has no name by which it could be called.
	ofRefused(t, read(t, "'a'"), list(call("a")), api.ErrUnknown)
	ofRefused(t, read(t, "'a'"), list(call("s")), api.ErrUnknown)
	// What has such a name and is no call.
	patternKnown(t, list(lit("nobody")), "f 6 6")
	patternKnown(t, list(op(api.PAny), api.Node{Op: api.PGroup, Text: "nobody"}), "f 1 1")
	patternKnown(t, list(op(api.PAny), api.Node{Op: api.PString, Text: "nobody"}), "f 1 1")
}

// 9.2: numbers that are no rule's, and the first and the last one.
func TestNumbersOfRules(t *testing.T) {
	for _, g := range []api.Grammar{read(t, "'a'"), read(t, beside), ring(199, ""), ring(200, "")} {
		n := len(g.Rules)
		for _, r := range []int{math.MinInt, math.MinInt32, -200, -1, n, n + 1, 201, 1 << 32, math.MaxInt} {
			partsRefused(t, g, r, api.ErrRange)
		}
		for _, r := range []int{0, n - 1} {
			if l, e := empty.Parts(g, r); len(l) != len(g.Rules[r].Body) || e != api.OK {
				t.Errorf("Parts(%d) of %d rules: %v, %v", r, n, l, e)
			}
		}
	}
}
