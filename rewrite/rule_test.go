package rewrite_test

import (
	"slices"
	"testing"

	"harrow/api"
)

// A use is a rule's by hand, in the notation: at what it is used, and what that becomes. x, y and z are calls; no rule can be used at a node ahead of the part's last one.
type use struct {
	rule          int
	part, becomes string
}

func uses() []use {
	return []use{
		{1, "[]", "%f"},
		{1, "[^]", "."},
		{2, "x^0", "%e"},
		{2, "x^-0", "%e"},
		{2, "('a' / x*)^0", "%e"},
		{2, "{}^-0", "%e"},
		{3, "x^1", "x"},
		{3, "(x y)^1", "x y"},
		{3, "{}^1", "{}"},
		{3, "x^-1", "x?"},
		{3, "(x / y)^-1", "(x / y)?"},
		{3, "x^+0", "x*"},
		{3, "{x}^+0", "{x}*"},
		{3, "x^+1", "x+"},
		{3, "(x !y)^+1", "(x !y)+"},
		{4, "%e x", "x"},
		{4, "x %e", "x"},
		{4, "%e (x / y)", "x / y"},
		{4, "{x y} %e", "{x y}"},
		{4, "%e %e", "%e"},
		{4, "%e 'a'", "'a'"},
		{4, "'a' %e", "'a'"},
		{5, "%f x", "%f"},
		{5, "x %f", "%f"},
		{5, "%f {:k: x :}", "%f"},
		{5, "x* %f", "%f"},
		{5, "%f %f", "%f"},
		{5, "'a' %f", "%f"},
		{6, "%f / x", "x"},
		{6, "x / %f", "x"},
		{6, "%f / x y", "x y"},
		{6, "{} / %f", "{}"},
		{6, "%f / %f", "%f"},
		{6, "'a' / %f", "'a'"},
		{6, "%f / 'a'", "'a'"},
		{7, "x* / y", "x*"},
		{7, "%e / y", "%e"},
		{7, "{} / {y}", "{}"},
		{7, "x* / x*", "x*"},
		{7, "%e / 'a'", "%e"},
		{8, "'a' / 'b'", "[ab]"},
		{8, "'a' / [b-d]", "[a-d]"},
		{8, "[b-d] / 'a'", "[a-d]"},
		{8, "[ace] / [bd]", "[a-e]"},
		{8, "'a' / 'a'", "[a]"},
		{8, "'a' / .", "[^]"},
		{8, ". / 'a'", "[^]"},
		{8, ". / .", "[^]"},
		{8, "[a] / .", "[^]"},
		{8, "[^a] / 'a'", "[^]"},
		{8, "'\\x00' / '\\xff'", "[\\x00\\xff]"},
		{8, "x / 'a' / 'b'", "x / [ab]"},
		{8, "x / [b-d] / 'a'", "x / [a-d]"},
		{8, "x / 'a' / [b-d]", "x / [a-d]"},
		{8, "x / [ac] / [bd]", "x / [a-d]"},
		{8, "x / . / 'a'", "x / [^]"},
		{8, "x / 'a' / .", "x / [^]"},
		{8, "x / . / .", "x / [^]"},
		{8, "x / y / 'a' / 'b'", "x / y / [ab]"},
		{8, "'ab' / 'a' / 'b'", "'ab' / [ab]"},
		{8, "{'a'} / 'a' / 'b'", "{'a'} / [ab]"},
		{9, "'a' 'b'", "'ab'"},
		{9, "'ab' 'cde'", "'abcde'"},
		{9, "'a' 'a'", "'aa'"},
		{9, "'\\xff' '\\x00\\n'", "'\\xff\\x00\\n'"},
		{9, "x 'a' 'b'", "x 'ab'"},
		{9, "x 'ab' 'cd'", "x 'abcd'"},
		{9, "x y 'a' 'b'", "x y 'ab'"},
		{9, "[a] 'a' 'b'", "[a] 'ab'"},
		{9, "{'a'} 'a' 'b'", "{'a'} 'ab'"},
		{10, "&&x", "&x"},
		{10, "&!x", "!x"},
		{10, "!!x", "&x"},
		{10, "!&x", "!x"},
		{10, "!!(x / 'a')", "&(x / 'a')"},
		{10, "!&(x 'a')", "!(x 'a')"},
		{11, "&%e", "%e"},
		{11, "!%f", "%e"},
		{11, "&%f", "%f"},
		{11, "!%e", "%f"},
		{12, "&{}", "&%e"},
		{12, "!{}", "!%e"},
		{12, "&{x}", "&x"},
		{12, "!{x}", "!x"},
		{12, "&{: x :}", "&x"},
		{12, "!{:k: x :}", "!x"},
		{12, "&{|x|}", "&x"},
		{12, "!{~x~}", "!x"},
		{12, "&(x -> 't')", "&x"},
		{12, "!(x -> 2)", "!x"},
		{12, "&(x {y})", "&(x y)"},
		{12, "&({x} y)", "&(x y)"},
		{12, "!(x / {y z})", "!(x / y z)"},
		{12, "&({} x)", "&(%e x)"},
		{12, "!({x} / {})", "!(x / %e)"},
		{12, "&({x}*)", "&(x*)"},
		{12, "!{|{:k: {~{(x -> 't') -> 3}~} :} {}|}", "!(x %e)"},
		{12, "&({'a'} 'b')", "&('a' 'b')"},
		{12, "&({%e} x)", "&(%e x)"},
		{13, "%f*", "%e"},
		{13, "%f?", "%e"},
		{13, "%f+", "%f"},
		{14, "(x*)?", "x*"},
		{14, "(x?)?", "x?"},
		{14, "%e?", "%e"},
		{14, "{}?", "{}"},
		{14, "(x? y*)?", "x? y*"},
		{14, "(x / y?)?", "x / y?"},
		{14, "{x*}?", "{x*}"},
		{15, "(x+)*", "x*"},
		{15, "(x+)+", "x+"},
		{15, "(x+)?", "x*"},
		{15, "((x y)+)*", "(x y)*"},
		{15, "({x}+)?", "{x}*"},
		{16, "x (y z)", "x y z"},
		{16, "x / (y / z)", "x / y / z"},
		{16, "x y (y z)", "x y y z"},
		{16, "x (x y z)", "x (x y) z"},
		{16, "x / (x / y / z)", "x / (x / y) / z"},
		{16, "'a' ('b' {'c'})", "'a' 'b' {'c'}"},
		{16, "'a' / ('b' / {'c'})", "'a' / 'b' / {'c'}"},
		{16, "'a' ({'b'} 'c')", "'a' {'b'} 'c'"},
		{16, "x* (y* z*)", "x* y* z*"},
	}
}

// A surrounding is the nodes ahead of a part, and those behind it. Nothing ahead of the part's last node can be used.
type surrounding struct{ ahead, behind api.Pattern }

func surroundings() []surrounding {
	l := []surrounding{
		{},
		{nil, list(call("v"), op(api.PSeq))},
		{list(call("v")), list(op(api.PSeq))},
		{nil, list(call("v"), op(api.PChoice))},
		{list(call("v")), list(op(api.PChoice))},
		{list(lit("v")), list(op(api.PSeq))},
		{list(lit("v")), list(op(api.PChoice))},
		{nil, list(lit("v"), op(api.PSeq))},
		{nil, list(lit("v"), op(api.PChoice))},
		{list(call("v"), op(api.PStar), lit("vw")), list(op(api.PSub), op(api.PSeq), op(api.PList), counted(api.PTimes, 3), call("w"), op(api.PChoice), op(api.PSeq), op(api.PNot))},
		{list(op(api.PPlace), call("v"), lit("v"), op(api.PSeq), op(api.PNot)), list(worded(api.PGroup, "k"), op(api.PSeq), op(api.PPlus), op(api.PSeq), op(api.PFail), op(api.PSeq), op(api.PEmpty), op(api.PChoice))},
		{slices.Repeat(list(call("v")), 50), slices.Repeat(list(op(api.PSeq)), 50)},
	}
	for kind := api.PStar; kind <= api.PPick; kind++ {
		n := op(kind)
		if slices.Contains([]int{api.PTimes, api.PLeast, api.PMost, api.PPick}, kind) {
			n.N = 2
		}
		if kind != api.PPlace {
			l = append(l, surrounding{nil, list(n)})
		}
	}
	return l
}

// S1: each rule at each form of its part, at the pattern's whole, deep within it, and at each part of a node of two.
func TestEachRule(t *testing.T) {
	for _, x := range uses() {
		part, q := read(t, x.part), read(t, x.becomes)
		for _, y := range surroundings() {
			becomes(t, slices.Concat(y.ahead, part, y.behind), slices.Concat(y.ahead, q, y.behind), x.rule)
		}
	}
}

// S1: a part that almost is as a rule's left side says is left as it is, wherever it stands.
func TestAlmost(t *testing.T) {
	for _, s := range []string{
		// 1: sets of one byte, of all but one.
		"[a]", "[\\x00]", "[\\xff]", "[^a]", "[^\\x00]", "[^\\xff]", "[\\x00-\\x7f]", "[\\x80-\\xff]", ".", "'a'", "'ab'", "%f", "%e", "x",
		// 2, 3: other numbers; PLeast of which N is 0 is no PTimes.
		"x^2", "x^-2", "x^+2", "x^50", "x^-50", "x^+50", "x -> 0", "x -> 1", "x*", "x+", "x?",
		// 4, 5: what is neither; a PChoice.
		"x y", "x / %e", "x 'a'", "'a' x", "x* y", "{%e} x", "x {%f}", "{} x", "x {}", "!x y", "x / y",
		// 6: a PFail that is not the part itself.
		"{%f} / x", "x / {%f}", "%f -> 't' / x", "x / &y",
		// 7: the second part alone is sure.
		"x / y*", "x / %e", "'a' / %e", "x / {}", "x / (y / %e)*",
		// 8: one of them is no byte pattern; the parts stand in the other order; a PSeq.
		"'ab' / 'a'", "'a' / 'ab'", "'ab' / 'cd'", "x / 'a'", "'a' / x", "'a' / x / 'b'", "'a' / 'bc' / 'd'", "{'a'} / 'b'", "'a' / {'b'}", "'a' / &'b'", "x / 'a' / 'bc'", "x / 'ab' / 'c'", "'a' / x / y / 'b'", "[a] 'b'", "'a' [b]", "'a' .", ". .", "'a' {'b' / x}",
		"(x 'a') / 'b'", "'a' / 'b' x", "'a'? 'b'", "'a' / 'b'?", "x / 'a' / 'b'+",
		// 9: one of them is no PText; a PChoice.
		"'a' x", "x 'a'", "'a' x 'b'", "'a' [b] 'c'", "{'a'} 'b'", "'a' {'b'}", "'a' 'b'*", "'a'+ 'b'", "'a' &'b'", "(x / 'a') 'b'", "'ab' / 'cd'", "x / 'ab' / 'cd'", "{x 'a'} 'b'",
		// 10, 11: something stands between; other parts.
		"&x", "!x", "&(&x y)", "!(!x y)", "!(&x / y)", "&(!x)*", "!(!x)+", "!(&x)^2", "&(x / %e)", "!(x / %e)", "&(x*)", "!(x*)", "&'a'", "!.", "!'a'", "{&x}", "&x &y", "!x !y",
		// 12: what captures is no predicate's part.
		"{x}", "{} x", "&x {y}", "{!x}", "{x} / &y", "{!x {y}}", "{&x}*", "{!x} {|y|}",
		// 13, 15: what is repeated is something else, what repeats is another kind.
		"x*", "x+", "x?", "{%f}*", "{%f}+", "{%f}?", "%f^2", "%f^+2", "%f^-2", "(x*)*", "(x*)+", "(x?)*", "(x?)+", "{x+}*", "(x+)^2", "(x+)^+2", "(x+)^-2", "(x+ y)*", "(x+ y+)?", "(x / y+)+", "(x^+2)*", "(x^+2)?",
		// 14: what is not sure; another kind.
		"x?", "'a'?", "(x y*)?", "(x* y)?", "{x}?", "(x / y)?", "(!x)?", "(&x)?", "(x^2)?", "(x^+2)?", "[a]?", ".?", "(x*)*",
		// 16: rows that lean to the left; of two kinds.
		"x y z", "x / y / z", "x (y / z)", "x / y z", "x {y z}", "x / {y / z}", "(x y)+ z", "x (y z)+", "x / (y / z)?", "x (y z / x)", "(x / y) (y / z)", "x y / y z", "x (y / z) x (y / z)",
	} {
		p := read(t, s)
		stays(t, p)
		for _, behind := range []api.Pattern{list(op(api.PSub)), list(op(api.PSub), call("v"), op(api.PSeq)), list(op(api.PList), op(api.PPlus)), list(worded(api.PGroup, "k"), call("v"), op(api.PSeq), lit("v"), op(api.PChoice))} {
			stays(t, slices.Concat(p, behind))
			stays(t, slices.Concat(list(call("v"), lit("w"), op(api.PSeq)), p, behind[:1], list(op(api.PSeq))))
			stays(t, slices.Concat(list(call("v"), lit("w"), op(api.PChoice)), p, behind[:1], list(op(api.PChoice))))
		}
	}
}
