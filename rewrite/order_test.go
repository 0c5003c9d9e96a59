package rewrite_test

import (
	"slices"
	"testing"

	"harrow/api"
)

// The chapter's examples, and what stands on the way.
func TestExamples(t *testing.T) {
	for _, x := range []struct {
		way   []string
		rules []int
	}{
		{[]string{"'a' 'b' 'c'", "'ab' 'c'", "'abc'"}, []int{9, 9}},
		{[]string{"'a' / [b-d] / 'x'", "[a-d] / 'x'", "[a-dx]"}, []int{8, 8}},
		{[]string{"!!{'a'}", "!!'a'", "&'a'"}, []int{12, 10}},
		{[]string{"'a'? / 'b'", "'a'?"}, []int{7}},
		{[]string{"('a' / %f) %e", "'a' %e", "'a'"}, []int{6, 4}},
		{[]string{"'a' ('b' {'c'})", "'a' 'b' {'c'}", "'ab' {'c'}"}, []int{16, 9}},
	} {
		goes(t, x.way, x.rules)
	}
}

// goes: Once leads from each pattern to the next one by that rule, and from the last one no further; Simple and Rules tell the whole way.
func goes(t *testing.T, way []string, rules []int) {
	t.Helper()
	var patterns []api.Pattern
	for _, s := range way {
		patterns = append(patterns, read(t, s))
	}
	last := patterns[len(rules)]
	for i, rule := range rules {
		becomes(t, patterns[i], patterns[i+1], rule)
		simpler(t, patterns[i], last, used(rules[i:]...))
	}
	stays(t, last)
}

// S1: where two rules can be used at a node, the first one is.
func TestTheFirstRule(t *testing.T) {
	for _, x := range []use{
		{4, "%e %f", "%f"},                // 5, too
		{4, "%f %e", "%f"},                // 5, too
		{4, "%e (x y)", "x y"},            // 16, too
		{5, "%f (x y)", "%f"},             // 16, too
		{6, "%f / %e", "%e"},              // no other one, but that its second part is sure
		{6, "%f / x*", "x*"},              // likewise
		{6, "%e / %f", "%e"},              // 7, too
		{6, "x* / %f", "x*"},              // 7, too
		{6, "%f / (x / y)", "x / y"},      // 16, too
		{7, "%e / (x / y)", "%e"},         // 16, too
		{7, "{} / (x / y*)", "{}"},        // 16, too
		{14, "(x*+)?", "x*+"},             // 15, too
		{14, "(%e+)?", "%e+"},             // 15, too
		{14, "((x / y*)+)?", "(x / y*)+"}, // 15, too
	} {
		p, q := read(t, x.part), read(t, x.becomes)
		for _, y := range surroundings() {
			becomes(t, slices.Concat(y.ahead, p, y.behind), slices.Concat(y.ahead, q, y.behind), x.rule)
		}
	}
	// Of a row's end both forms of a rule can't be used: what both parts are is used ahead.
	goes(t, []string{"'a' 'b' 'c' 'd'", "'ab' 'c' 'd'", "'abc' 'd'", "'abcd'"}, []int{9, 9, 9})
	goes(t, []string{"'a' / 'b' / 'c' / .", "[ab] / 'c' / .", "[a-c] / .", "[^]", "."}, []int{8, 8, 8, 1})
}

// S1: where rules can be used at several nodes, the first node counts: a part's ahead of the node's, a first part's ahead of a second one's, whatever the rules' numbers.
func TestTheFirstNode(t *testing.T) {
	for _, x := range []struct {
		way   []string
		rules []int
	}{
		{[]string{"%e (%f x)", "%e %f", "%f"}, []int{5, 4}},
		{[]string{"(x (y z)) %e", "x y z %e", "x y z"}, []int{16, 4}},
		{[]string{"%e (x+)?", "%e x*", "x*"}, []int{15, 4}},
		{[]string{"(x+)? x^1", "x* x^1", "x* x"}, []int{15, 3}},
		{[]string{"x^1 (x+)?", "x (x+)?", "x x*"}, []int{3, 15}},
		{[]string{"%f / (x / (y / z))", "%f / (x / y / z)", "x / y / z"}, []int{16, 6}},
		{[]string{"(x+)* / []", "x* / []", "x* / %f", "x*"}, []int{15, 1, 6}},
		{[]string{"&&{x}", "&&x", "&x"}, []int{12, 10}},
		{[]string{"!&{}", "!&%e", "!%e", "%f"}, []int{12, 11, 11}},
		{[]string{"!{!{x}}", "!{!x}", "!!x", "&x"}, []int{12, 12, 10}},
		{[]string{"((x*)^1)?", "(x*)?", "x*"}, []int{3, 14}},
		{[]string{"((x+)+)*", "(x+)*", "x*"}, []int{15, 15}},
		{[]string{"(x^1 y^1)^1", "(x y^1)^1", "(x y)^1", "x y"}, []int{3, 3, 3}},
		{[]string{"(x^1)^0", "x^0", "%e"}, []int{3, 2}},
		{[]string{"[]*", "%f*", "%e"}, []int{1, 13}},
		{[]string{"%f+ / 'a'?", "%f / 'a'?", "'a'?"}, []int{13, 6}},
		{[]string{"'a'^1 'b'^1 'c'^1", "'a' 'b'^1 'c'^1", "'a' 'b' 'c'^1", "'ab' 'c'^1", "'ab' 'c'", "'abc'"}, []int{3, 3, 9, 3, 9}},
		{[]string{"'a' ('b' ('c' 'd'))", "'a' ('b' 'cd')", "'a' 'bcd'", "'abcd'"}, []int{9, 9, 9}},
		{[]string{"'a' ('b' (x 'd'))", "'a' ('b' x 'd')", "'a' ('b' x) 'd'", "'a' 'b' x 'd'", "'ab' x 'd'"}, []int{16, 16, 16, 9}},
		{[]string{"x 'a' ('b' 'c' y)", "x 'a' ('bc' y)", "x 'a' 'bc' y", "x 'abc' y"}, []int{9, 16, 9}},
		{[]string{"'a' / ('b' / (x / 'c' / 'd'))", "'a' / ('b' / (x / [cd]))", "'a' / ('b' / x / [cd])", "'a' / ('b' / x) / [cd]", "'a' / 'b' / x / [cd]", "[ab] / x / [cd]"}, []int{8, 16, 16, 16, 8}},
		{[]string{"(x / y*) (z / %e) / (x / y)", "(x / y*) (z / %e)"}, []int{7}},
		{[]string{"('a' / 'b')^+0 / x", "[ab]^+0 / x", "[ab]* / x", "[ab]*"}, []int{8, 3, 7}},
	} {
		goes(t, x.way, x.rules)
	}
}
