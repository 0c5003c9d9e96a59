package first_test

import (
	"math"
	"testing"

	"harrow/api"
	"harrow/first"
	"harrow/rules"
	"harrow/tree"
)

// R5: beside an error nothing is told.
func rulesRefused(t *testing.T, g api.Grammar, want api.Errno) {
	t.Helper()
	if l, e := first.Rules(g); len(l) != 0 || e != want {
		t.Errorf("Rules: %v, %v, want %v", l, e, want)
	}
}

func ofRefused(t *testing.T, g api.Grammar, p api.Pattern, want api.Errno) {
	t.Helper()
	if x, e := first.Of(g, p); x != (api.Firsts{}) || e != want {
		t.Errorf("Of(%v): %v, %v, want %v", p, x, e, want)
	}
}

func partsRefused(t *testing.T, g api.Grammar, r int, want api.Errno) {
	t.Helper()
	if l, e := first.Parts(g, r); len(l) != 0 || e != want {
		t.Errorf("Parts(%d): %v, %v, want %v", r, l, e, want)
	}
}

func decidedRefused(t *testing.T, g api.Grammar, p, q api.Pattern, want api.Errno) {
	t.Helper()
	if is, e := first.Decided(g, p, q); is || e != want {
		t.Errorf("Decided(%v, %v): %v, %v, want %v", p, q, is, e, want)
	}
}

func wrongPatterns() map[api.Errno][]api.Pattern {
	return map[api.Errno][]api.Pattern{
		api.ErrLong:  {append(line(api.PSeq, 1023, op(api.PAny)), op(api.POpt), op(api.POpt)), line(api.PSeq, 1024, call("nobody"))},
		api.ErrOp:    {list(op(0)), list(op(24)), list(op(-1)), list(op(math.MaxInt)), list(call("nobody"), op(24))},
		api.ErrField: {list(lit("")), list(lit(times("a", 256))), list(call("")), list(call("1x")), list(call(times("n", 33))), list(op(api.PAny), counted(api.PTimes, 51)), list(op(api.PAny), counted(api.PMost, -1)), list(counted(api.PAny, 1)), list(call("nobody"), worded(api.PString, "%"))},
		api.ErrParts: {nil, {}, list(op(api.PStar)), list(op(api.PAny), op(api.PSeq)), list(op(api.PAny), op(api.PAny)), list(call("nobody"), call("nobody"))},
		api.ErrDeep:  {tower(60, op(api.PNot), op(api.PAny)), tower(60, op(api.PNot), call("nobody"))},
	}
}

// What is wrong with a grammar, each in a way of its own.
func wrongGrammars() map[api.Errno][]api.Grammar {
	right := rule("s", op(api.PAny))
	wrong := map[api.Errno][]api.Grammar{
		api.ErrShape:   {{}, {Rules: []api.Rule{}}},
		api.ErrText:    {grammar(rule("1x", op(api.PAny))), grammar(right, rule("", op(api.PAny))), grammar(rule("", op(api.PAny)), right), grammar(right, rule(times("n", 33), op(api.PAny)))},
		api.ErrTwice:   {grammar(right, right), grammar(right, rule("t", call("s")), right)},
		api.ErrUnknown: {grammar(rule("s", call("t"))), grammar(rule("", call("s"))), grammar(right, rule("t", call("s"), call("nobody"), op(api.PSeq)))},
	}
	many := chain(200, op(api.PAny))
	many.Rules = append(many.Rules, right)
	wrong[api.ErrLong] = append(wrong[api.ErrLong], many, grammar(right, rule("t", append(line(api.PSeq, 1023, op(api.PAny)), op(api.POpt))...)))
	for e, patterns := range wrongPatterns() {
		for _, p := range patterns {
			wrong[e] = append(wrong[e], grammar(rule("s", p...)), grammar(right, rule("t", p...)), grammar(right, rule("t", p...), right))
		}
	}
	return wrong
}

// 11.1, 11.2: what layer 8's Check refuses of the grammar, ahead of all else that is wrong.
func TestWrongGrammars(t *testing.T) {
	for want, grammars := range wrongGrammars() {
		for _, g := range grammars {
			if _, e := rules.Check(g); e != want {
				t.Fatalf("Check(%v): %v, want %v", g, e, want)
			}
			rulesRefused(t, g, want)
			patterns := []api.Pattern{list(op(api.PAny)), list(call("s")), list(call("nobody"))}
			for _, l := range wrongPatterns() {
				patterns = append(patterns, l[0])
			}
			for _, p := range patterns {
				ofRefused(t, g, p, want)
				for _, q := range patterns {
					decidedRefused(t, g, p, q, want)
				}
			}
			for _, r := range []int{math.MinInt, -1, 0, len(g.Rules) - 1, len(g.Rules), math.MaxInt} {
				partsRefused(t, g, r, want)
			}
		}
	}
}

// 11.2: what layer 4's Check refuses of a pattern, ahead of a name that no rule has; of Decided the first one ahead of the second one.
func TestWrongPatterns(t *testing.T) {
	right, unknown := list(op(api.PAny)), list(call("nobody"))
	grammars := []api.Grammar{read(t, beside), read(t, "'a'")}
	for want, patterns := range wrongPatterns() {
		for _, p := range patterns {
			ofRefused(t, chain(200, op(api.PAny)), p, want)
			if _, e := tree.Check(p); e != want {
				t.Fatalf("Check(%v): %v, want %v", p, e, want)
			}
			for _, g := range grammars {
				ofRefused(t, g, p, want)
				decidedRefused(t, g, right, p, want)
				decidedRefused(t, g, p, right, want)
				decidedRefused(t, g, p, unknown, want)
				decidedRefused(t, g, unknown, p, api.ErrUnknown)
				for later, others := range wrongPatterns() {
					for _, q := range others {
						decidedRefused(t, g, p, q, want)
						decidedRefused(t, g, q, p, later)
					}
				}
			}
		}
	}
}

// 11.2: a call of a name that no rule has, alone, behind others and ahead of them, in any node, whether it counts there or not.
func TestUnknownNames(t *testing.T) {
	g := read(t, beside)
	right := list(lit("a"))
	for _, name := range []string{"q", "S", "ss", "s_", "nobody", times("s", 32)} {
		for _, p := range []api.Pattern{
			list(call(name)),
			list(call("s"), call(name), op(api.PSeq)),
			list(call(name), call("s"), op(api.PSeq)),
			list(call("s"), call("t"), op(api.PSeq), call("w"), op(api.PChoice), call(name), op(api.PChoice)),
			list(call(name), counted(api.PTimes, 0)),
			list(call(name), counted(api.PMost, 0)),
			list(op(api.PEmpty), call(name), op(api.PChoice)),
			list(op(api.PAny), call(name), op(api.PSeq)),
			list(call(name), op(api.PNot), call("s"), op(api.PSeq)),
			tower(59, op(api.PAnd), call(name)),
			append(line(api.PSeq, 1022, call("s")), call(name), op(api.PChoice)),
		} {
			ofRefused(t, g, p, api.ErrUnknown)
			decidedRefused(t, g, p, right, api.ErrUnknown)
			decidedRefused(t, g, right, p, api.ErrUnknown)
			decidedRefused(t, g, list(op(api.PEmpty)), p, api.ErrUnknown)
			decidedRefused(t, g, p, nil, api.ErrUnknown)
			decidedRefused(t, g, nil, p, api.ErrParts)
			decidedRefused(t, g, p, p, api.ErrUnknown)
		}
	}
	// A pattern alone has no name by which it could be called.
	ofRefused(t, read(t, "'a'"), list(call("a")), api.ErrUnknown)
	ofRefused(t, read(t, "'a'"), list(call("s")), api.ErrUnknown)
	decidedRefused(t, read(t, "'a'"), right, list(call("s")), api.ErrUnknown)
	// What has such a name and is no call.
	patternKnown(t, list(lit("nobody")), "[n] -")
	patternKnown(t, list(lit("n"), worded(api.PGroup, "nobody")), "[n] h")
	patternKnown(t, list(lit("n"), worded(api.PString, "nobody")), "[n] h")
}

// 11.1: numbers that are no rule's, and the first and the last one.
func TestNumbersOfRules(t *testing.T) {
	for _, g := range []api.Grammar{read(t, "'a'"), read(t, beside), chain(199, op(api.PAny)), chain(200, op(api.PAny))} {
		n := len(g.Rules)
		for _, r := range []int{math.MinInt, math.MinInt32, -200, -1, n, n + 1, 201, 1 << 32, math.MaxInt} {
			partsRefused(t, g, r, api.ErrRange)
		}
		for _, r := range []int{0, n - 1} {
			if l, e := first.Parts(g, r); len(l) != len(g.Rules[r].Body) || e != api.OK {
				t.Errorf("Parts(%d) of %d rules: %v, %v", r, n, l, e)
			}
		}
	}
}

// R3: a list without an element may be nil or empty.
func TestNilAndEmpty(t *testing.T) {
	g := read(t, beside)
	right := list(op(api.PAny))
	for _, p := range []api.Pattern{nil, {}} {
		ofRefused(t, g, p, api.ErrParts)
		decidedRefused(t, g, p, right, api.ErrParts)
		decidedRefused(t, g, right, p, api.ErrParts)
		rulesRefused(t, grammar(rule("s", p...)), api.ErrParts)
	}
	for _, l := range [][]api.Rule{nil, {}} {
		h := api.Grammar{Rules: l}
		rulesRefused(t, h, api.ErrShape)
		ofRefused(t, h, nil, api.ErrShape)
		partsRefused(t, h, 0, api.ErrShape)
		decidedRefused(t, h, nil, nil, api.ErrShape)
	}
}

// P1: whatever is handed in, each call ends; and what it refuses is what layers 8 and 4 refuse.
func TestCallsEnd(t *testing.T) {
	x := newScramble()
	extremes := []int{math.MinInt, math.MinInt32, -1, 0, 1, 50, 51, 200, 1 << 31, math.MaxInt}
	right := read(t, beside)
	for i := range 3000 {
		g := x.grammar(1+i%5, 8)
		for range x.below(3) {
			body := g.Rules[x.below(len(g.Rules))].Body
			n := &body[x.below(len(body))]
			switch x.below(4) {
			case 0:
				n.Op = extremes[x.below(len(extremes))]
			case 1:
				n.N = extremes[x.below(len(extremes))]
			case 2:
				n.Text = times("\xff", x.below(300))
			case 3:
				n.Set[x.below(4)] = math.MaxUint64
			}
		}
		if _, want := rules.Check(g); want != api.OK {
			rulesRefused(t, g, want)
			partsRefused(t, g, i%9-1, want)
			ofRefused(t, g, g.Rules[0].Body, want)
			decidedRefused(t, g, g.Rules[0].Body, nil, want)
		} else {
			asModel(t, g)
		}
		for _, y := range g.Rules {
			_, want := tree.Check(y.Body)
			if _, e := first.Of(right, y.Body); e != want && (want != api.OK || e != api.ErrUnknown) {
				t.Fatal(y.Body, e, want)
			}
			_, e := first.Of(right, y.Body)
			if _, f := first.Decided(right, list(op(api.PAny)), y.Body); f != e {
				t.Fatal(y.Body, e, f)
			}
		}
	}
	huge := times("x", 1<<22)
	ofRefused(t, right, list(call(huge)), api.ErrField)
	ofRefused(t, right, list(lit(huge)), api.ErrField)
	rulesRefused(t, grammar(rule(huge, call(huge))), api.ErrText)
}
