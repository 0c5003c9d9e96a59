package rewrite_test

import (
	"math"
	"slices"
	"testing"

	"harrow/api"
	"harrow/ford"
	"harrow/rewrite"
	"harrow/rules"
	"harrow/tree"
)

// R5: beside an error nothing is told.
func refused(t *testing.T, p api.Pattern, want api.Errno) {
	t.Helper()
	if q, rule, e := rewrite.Once(p); len(q) != 0 || rule != 0 || e != want {
		t.Errorf("Once of %s: %s, %d, %v, want %v", brief(p), brief(q), rule, e, want)
	}
	if q, e := rewrite.Simple(p); len(q) != 0 || e != want {
		t.Errorf("Simple of %s: %s, %v, want %v", brief(p), brief(q), e, want)
	}
	if l, e := rewrite.Rules(p); len(l) != 0 || e != want {
		t.Errorf("Rules of %s: %v, %v, want %v", brief(p), l, e, want)
	}
}

func refusesGrammar(t *testing.T, g api.Grammar, want api.Errno) {
	t.Helper()
	if h, e := rewrite.Grammar(g); len(h.Rules) != 0 || e != want {
		t.Errorf("Grammar of %s: %s, %v, want %v", brief(g), brief(h), e, want)
	}
}

// What is wrong with a pattern, in each way that layer 4 refuses, also where a rule would leave the wrong part away.
func wrongPatterns() map[api.Errno][]api.Pattern {
	any, none := op(api.PAny), counted(api.PTimes, 0)
	marked := func(n api.Node) api.Node {
		n.Set = one('a')
		return n
	}
	return map[api.Errno][]api.Pattern{
		api.ErrLong: {slices.Repeat(list(any), api.MaxNodes+1), row(api.PSeq, slices.Repeat([]api.Pattern{list(any)}, 1025)...), row(api.PChoice, slices.Repeat([]api.Pattern{list(op(api.PFail))}, 1025)...), slices.Repeat(list(op(0)), api.MaxNodes+1)},
		api.ErrOp:   {list(op(0)), list(op(24)), list(op(-1)), list(op(math.MaxInt)), list(op(math.MinInt)), list(op(24), none), list(any, op(0), op(api.PSeq))},
		api.ErrField: {
			list(lit("")), list(lit(""), any, op(api.PChoice)), list(lit(times("a", 256))), list(lit(""), none), list(call("")), list(call("1")), list(call(times("n", 33))),
			list(any, counted(api.PTimes, -1)), list(any, counted(api.PTimes, 51)), list(any, counted(api.PLeast, -1)), list(any, counted(api.PMost, 51)), list(any, counted(api.PPick, 51)),
			list(any, worded(api.PString, "%")), list(any, worded(api.PString, "%x")), list(any, worded(api.PGroup, "1")), list(any, worded(api.PSub, "a")),
			list(counted(api.PEmpty, 1)), list(worded(api.PFail, "a")), list(counted(api.PPlace, 1)), list(marked(op(api.PEmpty))), list(marked(lit("a"))), list(any, marked(none)), list(marked(any), op(api.PStar)),
			list(any, op(api.PEmpty), counted(api.PSeq, 1)), list(any, worded(api.PNot, "a")),
		},
		api.ErrParts: {nil, {}, list(op(api.PStar)), list(none), list(any, op(api.PSeq)), list(any, any), list(any, op(api.PFail), any), list(op(api.PChoice), any), list(any, any, op(api.PSeq), any)},
		api.ErrDeep:  {tower(60, op(api.PNot), any), tower(60, op(api.PStar), op(api.PFail)), append(tower(60, op(api.PPlus), any), none), rowFromTheRight(api.PSeq, slices.Repeat([]api.Pattern{list(op(api.PEmpty))}, 61)...)},
	}
}

// S1, S2: each error of layer 4's Check, of each call; Grammar tells it of any of its rules.
func TestWrongPatterns(t *testing.T) {
	right := rule("s", lit("a"), lit("b"), op(api.PSeq))
	for want, patterns := range wrongPatterns() {
		for _, p := range patterns {
			if _, e := tree.Check(p); e != want {
				t.Fatalf("Check of %s: %v, want %v", brief(p), e, want)
			}
			refused(t, p, want)
			refusesGrammar(t, grammar(rule("", p...)), want)
			refusesGrammar(t, grammar(rule("t", p...), right), want)
			refusesGrammar(t, grammar(right, rule("t", p...)), want)
		}
	}
}

// S1, S2: where several errors apply, the one that Check names first is told.
func TestWhichErrorOfPatterns(t *testing.T) {
	wrongs := map[api.Errno]api.Node{api.ErrOp: counted(24, 99), api.ErrField: counted(api.PStar, 1), api.ErrParts: op(api.PStar)}
	for want, n := range wrongs {
		for _, other := range wrongs {
			refused(t, list(n, other), want)
			refused(t, list(n, other, other, op(api.PSeq)), want)
		}
		refused(t, append(list(n), tower(60, op(api.PNot), op(api.PAny))...), want)
		refused(t, append(tower(60, op(api.PNot), op(api.PAny)), n), api.ErrDeep)
		refused(t, append(slices.Repeat(list(n), api.MaxNodes), n), api.ErrLong)
	}
	// What a rule would leave away is looked at too.
	refused(t, list(op(api.PEmpty), lit(""), op(api.PChoice)), api.ErrField)
	refused(t, list(op(api.PFail), op(24), op(api.PSeq)), api.ErrOp)
	refused(t, append(tower(59, op(api.PStar), op(api.PAny)), counted(api.PTimes, 0)), api.ErrDeep)
	// Names that no rule has are a grammar's affair.
	simpler(t, list(call("nobody"), op(api.PEmpty), op(api.PSeq)), list(call("nobody")), used(4))
}

// S2: each error of layer 8's Check.
func TestWrongGrammars(t *testing.T) {
	any := op(api.PAny)
	right := rule("s", any, op(api.PEmpty), op(api.PSeq))
	many := grammar(right)
	for r := range api.MaxRules {
		many.Rules = append(many.Rules, rule("r"+string([]byte{byte('a' + r/20), byte('a' + r%20)}), any))
	}
	half := row(api.PSeq, slices.Repeat([]api.Pattern{list(any)}, 512)...) // 1023 nodes
	for want, grammars := range map[api.Errno][]api.Grammar{
		api.ErrShape:   {{}, {Rules: []api.Rule{}}},
		api.ErrLong:    {many, grammar(rule("a", half...), rule("b", half...), rule("c", any, op(api.PStar), op(api.PStar)))},
		api.ErrText:    {grammar(rule("1x", any)), grammar(right, rule("", any)), grammar(rule("", any), right), grammar(rule(times("n", 33), any)), grammar(rule("a b", any)), grammar(right, rule("\xff", any))},
		api.ErrTwice:   {grammar(right, right), grammar(right, rule("t", any), rule("s", lit("a")))},
		api.ErrUnknown: {grammar(rule("s", call("t"))), grammar(rule("", call("s"))), grammar(right, rule("u", call("t"))), grammar(rule("s", call("t"), counted(api.PTimes, 0))), grammar(rule("s", op(api.PEmpty), call("S"), op(api.PChoice)))},
	} {
		for _, g := range grammars {
			if _, e := rules.Check(g); e != want {
				t.Fatalf("Check of %s: %v, want %v", brief(g), e, want)
			}
			refusesGrammar(t, g, want)
		}
	}
	// One less is right.
	many.Rules = many.Rules[:api.MaxRules]
	behind(t, many)
	behind(t, grammar(rule("a", half...), rule("b", half...), rule("c", any, op(api.PStar))))
}

// S2: where several errors apply, the one that Check names first is told: of the first rule, and of it its name, its pattern, then names that are unknown.
func TestWhichErrorOfGrammars(t *testing.T) {
	any := op(api.PAny)
	wrongs := map[api.Errno]api.Rule{api.ErrText: rule("1", op(24)), api.ErrOp: rule("a", op(24)), api.ErrField: rule("b", lit("")), api.ErrParts: rule("c"), api.ErrTwice: rule("s", op(24))}
	for want, r := range wrongs {
		for _, other := range wrongs {
			refusesGrammar(t, grammar(rule("s", call("nobody")), r, other), want)
		}
	}
	var g api.Grammar
	for range api.MaxRules + 1 {
		g.Rules = append(g.Rules, rule("1", op(24)))
	}
	refusesGrammar(t, g, api.ErrLong)
	refusesGrammar(t, grammar(rule("s", call("nobody")), rule("t", any, any)), api.ErrParts)
}

// S2, S3: a grammar that is right, but not well formed, is taken.
func TestIllFormedGrammars(t *testing.T) {
	for s, want := range map[string]string{
		"s <- s":                         "s <- s",
		"s <- s 'a' 'b' / %f":            "s <- s 'ab'",
		"s <- %e*":                       "s <- %e*",
		"s <- ('a'?)+ t t <- (!s)^+0":    "s <- ('a'?)+ t t <- (!s)*",
		"s <- t 'x' t <- %e u u <- s %e": "s <- t 'x' t <- u u <- s",
	} {
		g := readGrammar(t, s)
		if _, e := ford.Check(g); e == api.OK {
			t.Fatal(s, "is well formed")
		}
		if h := behind(t, g); !rules.Same(h, readGrammar(t, want)) {
			t.Errorf("Grammar of %s: %s, want %s", s, brief(h), want)
		}
	}
}

// P1: whatever is handed in, each call ends, and what it refuses is what the layers 4 and 8 refuse.
func TestCallsEnd(t *testing.T) {
	x, m := newScramble(), newModel()
	extremes := []int{math.MinInt, math.MinInt32, -1, 0, 1, 2, 7, 17, 23, 24, 50, 51, api.MaxItems, 1 << 31, math.MaxInt}
	wrong, taken := 0, 0
	for i := range 5000 {
		g := x.grammar(1+i%4, 8)
		body := g.Rules[x.below(len(g.Rules))].Body
		for range x.below(3) {
			n := &body[x.below(len(body))]
			switch x.below(5) {
			case 0:
				n.Op = extremes[x.below(len(extremes))]
			case 1:
				n.N = extremes[x.below(len(extremes))]
			case 2:
				n.Text = times("\xff", x.below(300))
			case 3:
				n.Set[x.below(4)] = math.MaxUint64
			case 4:
				*n = body[x.below(len(body))]
			}
		}
		_, ofBody := tree.Check(body)
		if ofBody != api.OK {
			wrong++
			refused(t, body, ofBody)
		} else {
			taken++
			m.asModel(t, body)
		}
		if _, e := rules.Check(g); e != api.OK {
			refusesGrammar(t, g, e)
		} else {
			behind(t, g)
		}
	}
	if min(wrong, taken) < 500 {
		t.Error("too little was tried:", wrong, taken)
	}
	huge := times("x", 1<<22)
	refused(t, list(lit(huge)), api.ErrField)
	refused(t, list(call(huge), op(api.PEmpty), op(api.PSeq)), api.ErrField)
	refused(t, slices.Repeat(list(op(api.PAny)), 1<<20), api.ErrLong)
	refusesGrammar(t, grammar(rule(huge, call(huge))), api.ErrText)
	refusesGrammar(t, grammar(rule("", lit(huge))), api.ErrField)
	refusesGrammar(t, api.Grammar{Rules: make([]api.Rule, 1<<20)}, api.ErrLong)
}
