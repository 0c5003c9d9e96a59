package ford_test

import (
	"slices"
	"testing"

	"harrow/api"
	"harrow/ford"
)

// chain is n rules, each of which has the next one as its head.
func chain(n int) [][]int {
	heads := make([][]int, n)
	for r := range n - 1 {
		heads[r] = []int{r + 1}
	}
	return heads
}

func numbersFrom(first, last int) []int {
	var l []int
	for r := first; r <= last; r++ {
		l = append(l, r)
	}
	return l
}

// F1, F2, F3: as many rules as a grammar may have, in a chain, and in rings of all of them and of the last ones.
func TestMostRules(t *testing.T) {
	for _, n := range []int{199, 200} {
		g := made(chain(n)...)
		asWords(t, g)
		want := numbersFrom(0, n-1)
		slices.Reverse(want)
		if l, e := ford.Order(g); !slices.Equal(l, want) || e != api.OK {
			t.Error(l, e)
		}
		for _, back := range []int{0, 1, 100, n - 2, n - 1} {
			heads := chain(n)
			heads[n-1] = []int{back}
			v, e := ford.Check(made(heads...))
			if want := (api.Verdict{Cycle: numbersFrom(back, n-1)}); told(v, e) != told(want, 100) {
				t.Errorf("back to %d: %s", back, told(v, e))
			}
			headsAre(t, made(heads...), n-1, back)
		}
	}
	// Each rule begins with all those behind it that there is room for; then the last one with the first.
	heads := make([][]int, 200)
	for r := range heads {
		heads[r] = numbersFrom(r+1, min(r+4, 199))
	}
	asWords(t, made(heads...))
	heads[199] = []int{0}
	want := []int{0, 3, 7, 11, 15}
	for r := 19; r < 200; r += 4 {
		want = append(want, r)
	}
	if v, e := ford.Check(made(heads...)); told(v, e) != told(api.Verdict{Cycle: want}, 100) {
		t.Error(told(v, e))
	}
	// The last rule alone has a loop.
	g := made(chain(200)...)
	g.Rules[199].Body = list(op(api.PEmpty), op(api.PPlus))
	if v, e := ford.Check(g); told(v, e) != told(api.Verdict{Spot: api.Spot{Rule: 199, Node: 1}}, 101) {
		t.Error(told(v, e))
	}
}

// F1, F2: a rule that begins with all rules, since each one but itself may match nothing, through all those behind it.
func TestAllRulesAsHeads(t *testing.T) {
	all := list(call(nameOf(199)))
	for r := 198; r >= 0; r-- {
		all = append(all, call(nameOf(r)), op(api.PSeq))
	}
	g := grammar(rule(nameOf(0), all...))
	for r := 1; r < 199; r++ {
		g.Rules = append(g.Rules, rule(nameOf(r), call(nameOf(r+1)), op(api.PSub)))
	}
	g.Rules = append(g.Rules, rule(nameOf(199), op(api.PEmpty)))
	headsAre(t, g, 0, numbersFrom(0, 199)...)
	asWords(t, g)
	// With a byte in the last rule all others take one, and the first call ends the beginning.
	g.Rules[199].Body = list(op(api.PAny))
	headsAre(t, g, 0, 199)
	asWords(t, g)
}

// F1, F2, F3: as many nodes as all patterns may have together.
func TestMostNodes(t *testing.T) {
	nodes := func(g api.Grammar) int {
		n := 0
		for _, x := range g.Rules {
			n += len(x.Body)
		}
		return n
	}
	alone := grammar(rule("", append(row(api.PSeq, 1023, op(api.PAny)), op(api.PStar))...))
	calls := grammar(rule("s", row(api.PSeq, 1022, call("t"))...), rule("t", lit("a"), op(api.POpt), op(api.PSub)))
	many := list(op(api.PEmpty), op(api.PPlus))
	for range 682 {
		many = append(many, op(api.PEmpty), op(api.PPlus), op(api.PChoice))
	}
	loops := grammar(rule("", many...))
	full := made(chain(200)...)
	for r := range full.Rules {
		for len(full.Rules[r].Body) < 9 {
			full.Rules[r].Body = append(full.Rules[r].Body, lit("yz"), op(api.PChoice))
		}
	}
	full.Rules[7].Body = append(full.Rules[7].Body, row(api.PSeq, 123, op(api.PAny))...)
	full.Rules[7].Body = append(full.Rules[7].Body, op(api.PSeq))
	for i, g := range []api.Grammar{alone, calls, loops, full} {
		if nodes(g) != api.MaxNodes {
			t.Fatal(i, nodes(g))
		}
		asWords(t, g)
	}
	headsAre(t, calls, 0, 1)
	if l, e := ford.Loops(loops); len(l) != 683 || e != api.OK {
		t.Error(len(l), e)
	}
}

// F1: patterns as deep as they may be.
func TestDeepest(t *testing.T) {
	deep := func(above api.Node, under ...api.Node) api.Grammar {
		return grammar(rule("s", append(list(under...), slices.Repeat(list(above), 59)...)...))
	}
	for _, above := range []api.Node{op(api.PSub), op(api.POpt), op(api.PNot), op(api.PAnd), counted(api.PTimes, 2), counted(api.PMost, 1)} {
		asWords(t, deep(above, call("s")))
		asWords(t, deep(above, op(api.PAny)))
	}
	asWords(t, deep(counted(api.PTimes, 0), call("s")))
	asWords(t, deep(op(api.PStar), op(api.PAny)))
	asWords(t, deep(op(api.PPlus), op(api.PAny)))
}
