package packrat_test

import (
	"math"
	"testing"

	"harrow/api"
	"harrow/ford"
	"harrow/packrat"
)

// R5: beside an error nothing is told.
func refusesToRun(t *testing.T, g api.Grammar, r int, s string, at, most int, want api.Errno) {
	t.Helper()
	if x, e := packrat.Run(g, r, s, at, most); !sameTable(x, api.Table{}) || e != want {
		t.Errorf("Run(%s, %d, %d bytes, %d, %d): %s, %v, want %v", text(g), r, len(s), at, most, brief(x), e, want)
	}
}

func refusesToFill(t *testing.T, g api.Grammar, s string, most int, want api.Errno) {
	t.Helper()
	if l, n, e := packrat.Fill(g, s, most); len(l) != 0 || n != 0 || e != want {
		t.Errorf("Fill(%s, %d bytes, %d): %d lists, %d, %v, want %v", text(g), len(s), most, len(l), n, e, want)
	}
}

// What is wrong with a grammar, in each way that layer 10 refuses.
func wrongGrammars(t *testing.T) map[api.Errno][]api.Grammar {
	t.Helper()
	right := rule("s", op(api.PAny))
	many := chain(200)
	many.Rules = append(many.Rules, right)
	return map[api.Errno][]api.Grammar{
		api.ErrShape:   {{}, {Rules: []api.Rule{}}},
		api.ErrText:    {grammar(rule("1x", op(api.PAny))), grammar(right, rule("", op(api.PAny))), grammar(rule(times("n", 33), op(api.PAny)))},
		api.ErrTwice:   {grammar(right, right)},
		api.ErrUnknown: {grammar(rule("s", call("t"))), alone(call("s")), grammar(rule("s", call("t"), counted(api.PTimes, 0)))},
		api.ErrLong:    {many, alone(append(line(api.PSeq, 1023, op(api.PAny)), op(api.POpt), op(api.POpt))...)},
		api.ErrOp:      {alone(op(0)), alone(op(24)), alone(op(-1)), alone(op(math.MaxInt)), alone(op(math.MinInt))},
		api.ErrField:   {alone(lit("")), alone(lit(times("a", 256))), alone(call("")), alone(op(api.PAny), counted(api.PTimes, 51)), alone(op(api.PAny), counted(api.PMost, -1)), alone(op(api.PAny), worded(api.PString, "%"))},
		api.ErrParts:   {alone(), alone(op(api.PStar)), alone(op(api.PAny), op(api.PSeq)), alone(op(api.PAny), op(api.PAny))},
		api.ErrDeep:    {alone(tower(60, op(api.PNot), op(api.PAny))...)},
		api.ErrLeft:    {read(t, "s <- s"), read(t, "s <- s 'a' / 'b'"), read(t, "a <- 'x' b <- 'y'? c c <- !b"), grammar(rule("s", list(op(api.PEmpty), op(api.PStar), call("s"), op(api.PSeq))...))},
		api.ErrLoop:    {read(t, "''*"), read(t, "('a'?)+"), read(t, "s <- 'a' t <- (!s)^+0")},
	}
}

// 13.1, 13.2: what layer 10's Check refuses, ahead of all else that is wrong.
func TestWrongGrammars(t *testing.T) {
	long := times("a", api.MaxSubject+1)
	for want, grammars := range wrongGrammars(t) {
		for _, g := range grammars {
			if _, e := ford.Check(g); e != want {
				t.Fatalf("Check(%s): %v, want %v", text(g), e, want)
			}
			for _, s := range []string{"", "a", long[1:], long} {
				for _, number := range []int{math.MinInt, -1, 0, 1, len(g.Rules), 1 << 20, api.MaxSteps, api.MaxSteps + 1, math.MaxInt} {
					refusesToRun(t, g, number, s, number, number, want)
					refusesToRun(t, g, 0, s, 0, number, want)
					refusesToFill(t, g, s, number, want)
				}
			}
		}
	}
}

// 13.1: a number that is no rule's, then a subject that is too long, then a place that is none, then most that is below 0 or above the limit; and the first of them, where more than one is wrong.
func TestWrongNumbersInRun(t *testing.T) {
	g := read(t, "s <- 'a' t <- 'b' u <- 'c'")
	long := times("a", api.MaxSubject+1)
	below := []int{math.MinInt, math.MinInt32, -2, -1}
	for _, r := range append(below, 3, 4, 200, 1<<32, math.MaxInt) {
		for _, s := range []string{"", "ab", long} {
			for _, at := range []int{-1, 0, len(s), len(s) + 1} {
				for _, most := range []int{-1, 0, 100, api.MaxSteps, api.MaxSteps + 1} {
					refusesToRun(t, g, r, s, at, most, api.ErrRange)
				}
			}
		}
	}
	for r := range 3 {
		for _, at := range []int{math.MinInt, -1, 0, 3, len(long), len(long) + 1, math.MaxInt} {
			for _, most := range []int{math.MinInt, -1, 0, 100, api.MaxSteps, api.MaxSteps + 1, math.MaxInt} {
				refusesToRun(t, g, r, long, at, most, api.ErrLong)
			}
		}
		for _, s := range []string{"", "a", "ab", long[1:]} {
			for _, most := range []int{math.MinInt, -1, 0, 100, api.MaxSteps, api.MaxSteps + 1, math.MaxInt} {
				for _, at := range append(below, len(s)+1, len(s)+2, math.MaxInt) {
					refusesToRun(t, g, r, s, at, most, api.ErrRange)
				}
			}
			for _, most := range append(below, api.MaxSteps+1, math.MaxInt) {
				refusesToRun(t, g, r, s, len(s), most, api.ErrRange)
			}
			refusesToRun(t, g, r, s, 0, 0, api.ErrTired)
			refusesToRun(t, g, r, s, len(s), 0, api.ErrTired)
		}
	}
}

// 13.2: a subject that is too long, then most that is below 0 or above the limit, then too many pairs of a rule and a place, then too few steps; and the first of them, where more than one is wrong.
func TestWrongNumbersInFill(t *testing.T) {
	g := read(t, "s <- 'a' t <- 'b' u <- 'c'")
	long := times("a", api.MaxSubject+1)
	wrong := []int{math.MinInt, math.MinInt32, -2, -1, api.MaxSteps + 1, 1 << 32, math.MaxInt}
	right := []int{0, 1, 100, api.MaxSteps}
	for _, most := range append(wrong, right...) {
		refusesToFill(t, g, long, most, api.ErrLong)
		refusesToFill(t, g, long+long, most, api.ErrLong)
	}
	for _, s := range []string{"", "a", long[1:]} {
		for _, most := range wrong {
			refusesToFill(t, g, s, most, api.ErrRange)
		}
	}
	for _, most := range right {
		refusesToFill(t, g, long[1:], most, api.ErrTable)
	}
	refusesToFill(t, g, "", 0, api.ErrTired)
	refusesToFill(t, g, "", 2, api.ErrTired)
	fills(t, g, "", [][]int{{-1}, {-1}, {-1}}, 3)
}

// R2: a subject at the limit, at its beginning and at its end.
func TestLongestSubject(t *testing.T) {
	g := read(t, "s <- 'a'* !. t <- .")
	s := times("a", api.MaxSubject)
	for _, at := range []int{0, 1, api.MaxSubject - 1, api.MaxSubject} {
		runs(t, g, 0, s, at, api.Table{Kind: api.Matched, End: len(s), Steps: 5 + len(s) - at, Rows: []api.Row{{Rule: 0, At: at, End: len(s)}}})
		refusesToRun(t, g, 0, s+"a", at, enough, api.ErrLong)
	}
	runs(t, g, 1, s, len(s), api.Table{Kind: api.Failed, Steps: 1, Rows: []api.Row{{Rule: 1, At: len(s), End: -1}}})
	refusesToRun(t, g, 0, s, len(s)+1, enough, api.ErrRange)
}

// P1: whatever is handed in, each call ends, and what it refuses of a grammar is what layer 10 refuses.
func TestCallsEnd(t *testing.T) {
	x := newScramble()
	extremes := []int{math.MinInt, math.MinInt32, -1, 0, 1, 2, 50, 51, 200, api.MaxItems, api.MaxSteps, 1 << 31, math.MaxInt}
	pick := func() int { return extremes[x.below(len(extremes))] }
	refused, taken := 0, 0
	for i := range 5000 {
		g := x.grammar(1+i%4, 8)
		for range x.below(3) {
			body := g.Rules[x.below(len(g.Rules))].Body
			n := &body[x.below(len(body))]
			switch x.below(4) {
			case 0:
				n.Op = pick()
			case 1:
				n.N = pick()
			case 2:
				n.Text = times("\xff", x.below(300))
			case 3:
				n.Set[x.below(4)] = math.MaxUint64
			}
		}
		s := x.subject(8)
		_, want := ford.Check(g)
		if want != api.OK {
			refused++
			refusesToRun(t, g, pick(), s, pick(), pick(), want)
			refusesToFill(t, g, s, pick(), want)
			continue
		}
		taken++
		packrat.Run(g, pick(), s, pick(), min(pick(), 1000))
		packrat.Run(g, x.below(len(g.Rules)), s, x.below(len(s)+1), pick())
		packrat.Fill(g, s, pick())
	}
	if min(refused, taken) < 500 {
		t.Error("too little was tried:", refused, taken)
	}
	huge := times("x", 1<<22)
	right := read(t, "'a'")
	refusesToRun(t, right, 0, huge, 0, 10, api.ErrLong)
	refusesToFill(t, right, huge, 10, api.ErrLong)
	for g, want := range map[*api.Grammar]api.Errno{{Rules: []api.Rule{rule(huge, call(huge))}}: api.ErrText, {Rules: []api.Rule{rule("", lit(huge))}}: api.ErrField} {
		refusesToRun(t, *g, 0, "", 0, 10, want)
		refusesToFill(t, *g, "", 10, want)
	}
}

// chain is n rules that take a byte each, and then do what the next one does; the last one takes a byte alone.
func chain(n int) api.Grammar {
	var g api.Grammar
	for r := range n - 1 {
		g.Rules = append(g.Rules, rule(nameOf(r), lit("a"), call(nameOf(r+1)), op(api.PSeq)))
	}
	g.Rules = append(g.Rules, rule(nameOf(n-1), lit("a")))
	return g
}
