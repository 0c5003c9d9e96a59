package walk_test

import (
	"math"
	"testing"

	"harrow/api"
	"harrow/ford"
	"harrow/walk"
)

// R5: beside an error nothing is told.
func refusesToWalk(t *testing.T, g api.Grammar, r int, s string, at, most int, want api.Errno) {
	t.Helper()
	if x, n, e := walk.Walk(g, r, s, at, most); !sameResult(x, api.Result{}) || n != 0 || e != want {
		t.Errorf("Walk(%s, %d, %d bytes, %d, %d): %s, %d, %v, want %v", text(g), r, len(s), at, most, told(x), n, e, want)
	}
}

func refusesToTellEnds(t *testing.T, g api.Grammar, r int, s string, most int, want api.Errno) {
	t.Helper()
	if l, e := walk.Ends(g, r, s, most); len(l) != 0 || e != want {
		t.Errorf("Ends(%s, %d, %d bytes, %d): %d places, %v, want %v", text(g), r, len(s), most, len(l), e, want)
	}
}

func refusesToDerive(t *testing.T, g api.Grammar, r int, s string, at, most int, want api.Errno) {
	t.Helper()
	if l, e := walk.Derive(g, r, s, at, most); len(l) != 0 || e != want {
		t.Errorf("Derive(%s, %d, %d bytes, %d, %d): %d judgements, %v, want %v", text(g), r, len(s), at, most, len(l), e, want)
	}
}

func refusesToHold(t *testing.T, g api.Grammar, s string, l []api.Judgement, want api.Errno) {
	t.Helper()
	if is, at, e := walk.Holds(g, s, l); is || at != 0 || e != want {
		t.Errorf("Holds(%s, %d bytes, %d judgements): %v, %d, %v, want %v", text(g), len(s), len(l), is, at, e, want)
	}
}

// refuses asks all four calls, where they are given the same.
func refuses(t *testing.T, g api.Grammar, r int, s string, at, most int, want api.Errno) {
	t.Helper()
	refusesToWalk(t, g, r, s, at, most, want)
	refusesToDerive(t, g, r, s, at, most, want)
	if at >= 0 && at <= len(s) {
		refusesToTellEnds(t, g, r, s, most, want)
	}
}

// What is wrong with a grammar, in each way that layer 10 refuses.
func wrongGrammars(t *testing.T) map[api.Errno][]api.Grammar {
	t.Helper()
	right := rule("s", op(api.PAny))
	many := chain(200)
	many.Rules = append(many.Rules, right)
	return map[api.Errno][]api.Grammar{
		api.ErrShape:   {{}, {Rules: []api.Rule{}}},
		api.ErrText:    {grammar(rule("1x", op(api.PAny))), grammar(right, rule("", op(api.PAny))), grammar(rule(times("n", 33), op(api.PAny)))},
		api.ErrTwice:   {grammar(right, right)},
		api.ErrUnknown: {grammar(rule("s", call("t"))), alone(call("s")), grammar(rule("s", call("t"), counted(api.PTimes, 0)))},
		api.ErrLong:    {many, alone(append(line(api.PSeq, 1023, op(api.PAny)), op(api.POpt), op(api.POpt))...)},
		api.ErrOp:      {alone(op(0)), alone(op(24)), alone(op(-1)), alone(op(math.MaxInt)), alone(op(math.MinInt))},
		api.ErrField:   {alone(lit("")), alone(lit(times("a", 256))), alone(call("")), alone(op(api.PAny), counted(api.PTimes, 51)), alone(op(api.PAny), counted(api.PMost, -1)), alone(op(api.PAny), worded(api.PString, "%"))},
		api.ErrParts:   {alone(), alone(op(api.PStar)), alone(op(api.PAny), op(api.PSeq)), alone(op(api.PAny), op(api.PAny))},
		api.ErrDeep:    {alone(tower(60, op(api.PNot), op(api.PAny))...)},
		api.ErrLeft:    {read(t, "s <- s"), read(t, "s <- s 'a' / 'b'"), read(t, "a <- 'x' b <- 'y'? c c <- !b"), grammar(rule("s", list(op(api.PEmpty), op(api.PStar), call("s"), op(api.PSeq))...))},
		api.ErrLoop:    {read(t, "''*"), read(t, "('a'?)+"), read(t, "s <- 'a' t <- (!s)^+0")},
	}
}

// K1 to K4: what layer 10's Check refuses, ahead of all else that is wrong.
func TestWrongGrammars(t *testing.T) {
	long := times("a", api.MaxSubject+1)
	judgements := make([]api.Judgement, api.MaxItems+1)
	for want, grammars := range wrongGrammars(t) {
		for _, g := range grammars {
			if _, e := ford.Check(g); e != want {
				t.Fatalf("Check(%s): %v, want %v", text(g), e, want)
			}
			for _, s := range []string{"", "a", long} {
				for _, number := range []int{math.MinInt, -1, 0, 1, len(g.Rules), 1 << 20, api.MaxSteps, api.MaxSteps + 1, math.MaxInt} {
					refusesToWalk(t, g, number, s, number, number, want)
					refusesToTellEnds(t, g, number, s, number, want)
					refusesToDerive(t, g, number, s, number, number, want)
				}
				refusesToHold(t, g, s, nil, want)
				refusesToHold(t, g, s, judgements[:1], want)
				refusesToHold(t, g, s, judgements, want)
			}
		}
	}
}

// K1 to K3: a number that is no rule's, then a subject that is too long, then a place that is none, then most that is below 0 or above the limit; and the first of them, where more than one is wrong.
func TestWrongNumbers(t *testing.T) {
	g := read(t, "s <- 'a' t <- 'b' u <- 'c'")
	long := times("a", api.MaxSubject+1)
	below := []int{math.MinInt, math.MinInt32, -2, -1}
	for _, r := range append(below, 3, 4, 200, 1<<32, math.MaxInt) {
		for _, s := range []string{"", "ab", long} {
			for _, at := range []int{-1, 0, len(s), len(s) + 1} {
				for _, most := range []int{-1, 0, 100, api.MaxSteps, api.MaxSteps + 1} {
					refuses(t, g, r, s, at, most, api.ErrRange)
				}
			}
		}
	}
	for r := range 3 {
		for _, at := range []int{math.MinInt, -1, 0, 3, len(long), len(long) + 1, math.MaxInt} {
			for _, most := range []int{math.MinInt, -1, 0, 100, api.MaxSteps, api.MaxSteps + 1, math.MaxInt} {
				refusesToWalk(t, g, r, long, at, most, api.ErrLong)
				refusesToDerive(t, g, r, long, at, most, api.ErrLong)
				refusesToTellEnds(t, g, r, long, most, api.ErrLong)
			}
		}
		for _, s := range []string{"", "a", "ab", long[1:]} {
			for _, most := range []int{math.MinInt, -1, 0, 100, api.MaxSteps, api.MaxSteps + 1, math.MaxInt} {
				for _, at := range append(below, len(s)+1, len(s)+2, math.MaxInt) {
					refusesToWalk(t, g, r, s, at, most, api.ErrRange)
					refusesToDerive(t, g, r, s, at, most, api.ErrRange)
				}
			}
			for _, most := range append(below, api.MaxSteps+1, math.MaxInt) {
				refuses(t, g, r, s, len(s), most, api.ErrRange)
			}
			refusesToDerive(t, g, r, s, 0, api.MaxItems+1, api.ErrRange)
			refusesToDerive(t, g, r, s, 0, api.MaxSteps, api.ErrRange)
			refuses(t, g, r, s, 0, 0, api.ErrTired)
		}
	}
}

// R2: a subject at the limit, and places at its beginning and at its end.
func TestLongestSubject(t *testing.T) {
	g := read(t, "s <- 'a'* !. t <- .")
	s := times("a", api.MaxSubject)
	takesSteps(t, g, s, 0, fmtEnd(api.MaxSubject), 3+api.MaxSubject+1+1)
	takesSteps(t, g, s, api.MaxSubject, fmtEnd(api.MaxSubject), 5)
	takesSteps(t, g, s, api.MaxSubject-1, fmtEnd(api.MaxSubject), 6)
	l := []api.Judgement{{Rule: 1, Node: 0, At: api.MaxSubject, End: -1}, {Rule: 1, Node: 0, At: api.MaxSubject - 1, End: api.MaxSubject}, {Rule: 1, Node: 0, At: 0, End: 1}}
	if is, at, e := walk.Holds(g, s, l); !is || at != 0 || e != api.OK {
		t.Error(is, at, e)
	}
	refusesToHold(t, g, s+"a", l, api.ErrLong)
	refusesToHold(t, g, s+"a", nil, api.ErrLong)
	refusesToHold(t, g, s+"a", make([]api.Judgement, api.MaxItems+1), api.ErrLong)
}

// P1: whatever is handed in, each call ends, and what it refuses of a grammar is what layer 10 refuses.
func TestCallsEnd(t *testing.T) {
	x := newScramble()
	extremes := []int{math.MinInt, math.MinInt32, -1, 0, 1, 2, 50, 51, 200, api.MaxItems, api.MaxSteps, 1 << 31, math.MaxInt}
	pick := func() int { return extremes[x.below(len(extremes))] }
	refused, taken := 0, 0
	for i := range 5000 {
		g := x.grammar(1+i%4, 8)
		for range x.below(3) {
			body := g.Rules[x.below(len(g.Rules))].Body
			n := &body[x.below(len(body))]
			switch x.below(4) {
			case 0:
				n.Op = pick()
			case 1:
				n.N = pick()
			case 2:
				n.Text = times("\xff", x.below(300))
			case 3:
				n.Set[x.below(4)] = math.MaxUint64
			}
		}
		s := x.subject(8)
		var l []api.Judgement
		for range x.below(4) {
			l = append(l, api.Judgement{Rule: pick(), Node: pick(), At: pick(), End: pick()})
		}
		_, want := ford.Check(g)
		if want != api.OK {
			refused++
			refusesToWalk(t, g, pick(), s, pick(), pick(), want)
			refusesToTellEnds(t, g, pick(), s, pick(), want)
			refusesToDerive(t, g, pick(), s, pick(), pick(), want)
			refusesToHold(t, g, s, l, want)
			continue
		}
		taken++
		walk.Walk(g, pick(), s, pick(), min(pick(), 1000))
		walk.Walk(g, x.below(len(g.Rules)), s, x.below(len(s)+1), min(pick(), 1000))
		walk.Ends(g, pick(), s, min(pick(), 1000))
		walk.Derive(g, x.below(len(g.Rules)), s, x.below(len(s)+1), pick())
		if _, _, e := walk.Holds(g, s, l); e != api.OK {
			t.Fatal(text(g), e)
		}
	}
	if min(refused, taken) < 500 {
		t.Error("too little was tried:", refused, taken)
	}
	huge := times("x", 1<<22)
	right := read(t, "'a'")
	refuses(t, right, 0, huge, 0, 10, api.ErrLong)
	refusesToHold(t, right, huge, nil, api.ErrLong)
	refusesToHold(t, right, "", make([]api.Judgement, 1<<20), api.ErrLong)
	refuses(t, grammar(rule(huge, call(huge))), 0, "", 0, 10, api.ErrText)
	refuses(t, alone(lit(huge)), 0, "", 0, 10, api.ErrField)
}
