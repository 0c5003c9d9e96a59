package ford_test

import (
	"math"
	"slices"
	"strings"
	"testing"

	"harrow/api"
	"harrow/ford"
	"harrow/rules"
)

// refused: layer 8's error in all four calls, its Spot in Check's Verdict, and nothing else beside it (R5), whichever rule Heads is asked for.
func refused(t *testing.T, g api.Grammar, at api.Spot, want api.Errno) {
	t.Helper()
	if spot, e := rules.Check(g); spot != at || e != want {
		t.Fatalf("layer 8: %v, %v, want %v, %v", spot, e, at, want)
	}
	if v, e := ford.Check(g); told(v, e) != told(api.Verdict{Spot: at}, want) {
		t.Errorf("Check: %s, want %v, %v", told(v, e), at, want)
	}
	for _, r := range []int{math.MinInt, -1, 0, len(g.Rules) - 1, len(g.Rules), math.MaxInt} {
		if l, e := ford.Heads(g, r); len(l) != 0 || e != want {
			t.Errorf("Heads(%d): %v, %v, want %v", r, l, e, want)
		}
	}
	if l, e := ford.Loops(g); len(l) != 0 || e != want {
		t.Errorf("Loops: %v, %v, want %v", l, e, want)
	}
	if l, e := ford.Order(g); len(l) != 0 || e != want {
		t.Errorf("Order: %v, %v, want %v", l, e, want)
	}
}

// F1, F2, F3: what layer 8 refuses, be there a left recursion, a loop or both besides.
func TestWrongGrammars(t *testing.T) {
	s := rule("s", op(api.PAny))
	left, loop := rule("left", call("left")), rule("loop", op(api.PEmpty), op(api.PStar))
	at := func(r, node int) api.Spot { return api.Spot{Rule: r, Node: node} }
	refused(t, api.Grammar{}, at(0, 0), api.ErrShape)
	refused(t, api.Grammar{Rules: []api.Rule{}}, at(0, 0), api.ErrShape)
	refused(t, grammar(rule("1x", op(api.PAny))), at(0, 0), api.ErrText)
	refused(t, grammar(left, loop, rule("", op(api.PAny))), at(2, 0), api.ErrText)
	refused(t, grammar(rule("", call("s")), s), at(0, 0), api.ErrText)
	refused(t, grammar(s, left, s), at(2, 0), api.ErrTwice)
	refused(t, grammar(left, loop, left, left), at(2, 0), api.ErrTwice)
	refused(t, grammar(rule("s", call("s"), op(24))), at(0, 1), api.ErrOp)
	refused(t, grammar(left, loop, rule("s", op(api.PAny), op(0))), at(2, 1), api.ErrOp)
	refused(t, grammar(left, rule("s", op(api.PEmpty), counted(api.PLeast, 51))), at(1, 1), api.ErrField)
	refused(t, grammar(loop, rule("s", call("s"), lit(""), op(api.PSeq))), at(1, 1), api.ErrField)
	refused(t, grammar(left, rule("s")), at(1, 0), api.ErrParts)
	refused(t, grammar(left, rule("s", op(api.PStar))), at(1, 0), api.ErrParts)
	refused(t, grammar(left, rule("s", call("left"), call("left"))), at(1, 2), api.ErrParts)
	refused(t, grammar(left, rule("s", append(list(call("s")), slices.Repeat(list(op(api.PStar)), 60)...)...)), at(1, 60), api.ErrDeep)
	refused(t, grammar(rule("s", call("t"))), at(0, 0), api.ErrUnknown)
	refused(t, grammar(left, loop, rule("s", call("left"), call("nobody"), op(api.PSeq))), at(2, 1), api.ErrUnknown)
	refused(t, grammar(rule("", call("s"))), at(0, 0), api.ErrUnknown)
	refused(t, grammar(left, rule("s", call("nobody"), counted(api.PTimes, 0))), at(1, 0), api.ErrUnknown)
	// The first one that layer 8 tells, where there are several.
	refused(t, grammar(rule("s", call("nobody")), rule("s", op(24))), at(1, 0), api.ErrTwice)
	refused(t, grammar(rule("s", call("nobody")), rule("t", op(24))), at(1, 0), api.ErrOp)
}

// F1, F2, F3: too many rules, and too many nodes: one less is taken.
func TestTooMany(t *testing.T) {
	many := made(make([][]int, 200)...)
	if v, e := ford.Check(many); told(v, e) != told(api.Verdict{}, 0) {
		t.Error(told(v, e))
	}
	many.Rules = append(many.Rules, rule("left", call("left")))
	refused(t, many, api.Spot{}, api.ErrLong)
	full := grammar(rule("s", row(api.PChoice, 1023, call("t"))...), rule("t", lit("a")))
	if v, e := ford.Check(full); told(v, e) != told(api.Verdict{}, 0) {
		t.Error(told(v, e))
	}
	full.Rules[1].Body = append(full.Rules[1].Body, op(api.PStar))
	refused(t, full, api.Spot{Rule: 1}, api.ErrLong)
	refused(t, grammar(rule("s", row(api.PChoice, 1024, call("s"))...)), api.Spot{}, api.ErrLong)
	refused(t, grammar(rule("s", op(api.PAny)), rule("t", row(api.PChoice, 1024, call("s"))...)), api.Spot{Rule: 1}, api.ErrLong)
}

// F2: numbers that are no rule's, and the first and the last one.
func TestNumbersOfRules(t *testing.T) {
	chain := make([][]int, 200)
	for r := range 199 {
		chain[r] = []int{r + 1}
	}
	chain[199] = []int{0}
	for _, g := range []api.Grammar{read(t, "'a'*"), read(t, "a <- a 'x' / ''*"), read(t, "a <- b b <- 'x'"), made(chain...)} {
		n := len(g.Rules)
		for _, r := range []int{math.MinInt, math.MinInt32, -200, -1, n, n + 1, 200, 201, 1 << 32, math.MaxInt} {
			if l, e := ford.Heads(g, r); len(l) != 0 || e != api.ErrRange {
				t.Errorf("Heads(%d) of %d rules: %v, %v", r, n, l, e)
			}
		}
		want := wordsOf(g).heads
		headsAre(t, g, 0, want[0]...)
		headsAre(t, g, n-1, want[n-1]...)
	}
}

// F3: what Check refuses, without its Verdict.
func TestOrderRefused(t *testing.T) {
	for text, want := range map[string]api.Errno{"s <- s": 100, "''*": 101, "s <- s ''*": 100, "a <- b b <- c c <- 'x'? a": 100, "a <- 'x' b <- (!a)+": 101, "s <- t": 81} {
		if l, e := ford.Order(read(t, text)); len(l) != 0 || e != want {
			t.Errorf("Order(%s): %v, %v, want %v", text, l, e, want)
		}
	}
}

// P1: whatever is handed in, each call ends, and refuses what layer 8 refuses.
func TestCallsEnd(t *testing.T) {
	x := newScramble()
	extremes := []int{math.MinInt, math.MinInt32, -1, 0, 1, 50, 51, 200, 1 << 31, math.MaxInt}
	for i := range 3000 {
		g := x.grammar(1+i%5, 8)
		for range x.below(3) {
			r := x.below(len(g.Rules))
			body := g.Rules[r].Body
			n := &body[x.below(len(body))]
			switch x.below(6) {
			case 0:
				n.Op = extremes[x.below(len(extremes))]
			case 1:
				n.N = extremes[x.below(len(extremes))]
			case 2:
				n.Text = strings.Repeat("\xff", x.below(300))
			case 3:
				n.Set[x.below(4)] = math.MaxUint64
			case 4:
				g.Rules[r].Name = []string{"", "a0", "1", "\x00", "late"}[x.below(5)]
			case 5:
				g.Rules[r].Body = body[:x.below(len(body)+1)]
				if len(g.Rules[r].Body) == 0 {
					g.Rules[r].Body = list(op(api.PAny))
				}
			}
		}
		if at, e := rules.Check(g); e != api.OK {
			refused(t, g, at, e)
		} else {
			asWords(t, g)
		}
	}
	huge := strings.Repeat("x", 1<<22)
	refused(t, grammar(rule(huge, call(huge))), api.Spot{}, api.ErrText)
	refused(t, grammar(rule("s", call(huge))), api.Spot{}, api.ErrField)
}
