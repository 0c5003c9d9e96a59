package packrat_test

import (
	"testing"

	"harrow/api"
	"harrow/packrat"
)

// ended is what a run tells, but for its rows, of which only the number is held against what is told.
func ended(t *testing.T, g api.Grammar, r int, s string, at, most, end, steps, rows int) {
	t.Helper()
	x, e := packrat.Run(g, r, s, at, most)
	if e != api.OK || x.Kind != api.Matched || x.End != end || x.Steps != steps || len(x.Rows) != rows {
		t.Errorf("Run(%s, %d, %d bytes, %d, %d): %s, %d rows, %v, want to %d in %d, %d rows", text(g), r, len(s), at, most, brief(told(g, x)), len(x.Rows), e, end, steps, rows)
	}
}

// 13.1: the run of exactly MaxSteps steps, and that of one more. The a's are gone over again from each of their places, the b's once.
func TestMostSteps(t *testing.T) {
	g := read(t, "(&'a'* 'a')* 'b'*")
	a := 5780
	// A sequence, a star; at each a a sequence, an and, a star, the a's that are left and what is no a, an a; behind them a sequence, an and, a star, two that are no a; a star, the b's and what is no b.
	steps := 2 + a*5 + a*(a+1)/2 + 5 + 2
	b := api.MaxSteps - steps
	subject := times("a", a) + times("b", b)
	ended(t, g, 0, subject, 0, api.MaxSteps, a+b, api.MaxSteps, 1)
	refusesToRun(t, g, 0, subject, 0, api.MaxSteps-1, api.ErrTired)
	refusesToRun(t, g, 0, subject+"b", 0, api.MaxSteps, api.ErrTired)
	refusesToRun(t, g, 0, subject, 0, api.MaxSteps+1, api.ErrRange)
}

// 13.2: the whole table that takes exactly MaxSteps steps, and one that takes more. At each a stands a star, the a's that are left, and what is no a; at each b and at the end two steps.
func TestMostStepsOfFill(t *testing.T) {
	g := read(t, "'a'*")
	a := 5788
	b := (api.MaxSteps - a*(a+1)/2 - 2*a - 2) / 2
	subject := times("a", a) + times("b", b)
	l, n, e := packrat.Fill(g, subject, api.MaxSteps)
	if n != api.MaxSteps || e != api.OK {
		t.Fatal(n, e)
	}
	for at, end := range l[0] {
		if end != max(a, at) {
			t.Fatal(at, end)
		}
	}
	refusesToFill(t, g, subject, api.MaxSteps-1, api.ErrTired)
	refusesToFill(t, g, subject+"b", api.MaxSteps, api.ErrTired)
	refusesToFill(t, g, subject, api.MaxSteps+1, api.ErrRange)
}

// 13.1: MaxRows tries of rules, and one more. t is tried at each a, and where there is none.
func TestMostRows(t *testing.T) {
	g := read(t, "s <- t* t <- 'a'")
	n := api.MaxRows - 2
	// A star; at each place a call, and what it calls.
	steps := 1 + 2*(n+1)
	ended(t, g, 0, times("a", n), 0, steps, n, steps, api.MaxRows)
	ended(t, g, 0, times("a", n)+"b", 0, api.MaxSteps, n, steps, api.MaxRows)
	ended(t, g, 0, times("a", n+1), 1, api.MaxSteps, n+1, steps, api.MaxRows)
	ended(t, g, 0, times("a", n+1), 2, api.MaxSteps, n+1, steps-2, api.MaxRows-1)
	refusesToRun(t, g, 0, times("a", n), 0, steps-1, api.ErrTired)
	refusesToRun(t, g, 0, times("a", n+1), 0, api.MaxSteps, api.ErrTable)
	refusesToRun(t, g, 0, times("a", n+2), 0, api.MaxSteps, api.ErrTable)
	x, e := packrat.Run(g, 0, times("a", n), 0, steps)
	if e != api.OK {
		t.Fatal(e)
	}
	for i, row := range x.Rows {
		want := api.Row{Rule: 1, At: i - 1, End: i}
		switch i {
		case 0:
			want = api.Row{Rule: 0, At: 0, End: n}
		case api.MaxRows - 1:
			want.End = -1
		}
		if row != want {
			t.Fatal(i, row, want)
		}
	}
}

// 13.1: once as many rules as may be have been tried, all else goes on: bytes, and calls of what the table has; but no rule is tried anew, wherever it stands, and whether it would match or fail.
func TestWhenTheTableIsFull(t *testing.T) {
	subject := times("a", api.MaxRows-2)
	for _, x := range []struct {
		text   string
		isFull bool
	}{
		{"s <- &(t*) t* t <- 'a'", false},
		{"s <- &(t*) !(t+ 'x') 'a'* t <- 'a'", false},
		{"s <- &(t*) (t 'x' / 'a')* u? t <- 'a' u <- 'u'", true},
		{"s <- &(t*) (t 'x' / 'a')* !u t <- 'a' u <- 'u'", true},
		{"s <- t* (u / %e) t <- 'a' u <- %e", true},
		{"s <- t* &u t <- 'a' u <- .", true},
		{"s <- t* ('a' u)? t <- 'a' u <- .", false},
		{"s <- t* u^0 t <- 'a' u <- .", false},
		{"s <- t* {| u |} t <- 'a' u <- %f", true},
		{"s <- (t / u)* t <- 'a' u <- 'u'", true},
	} {
		g, fits := read(t, x.text), subject
		if x.isFull {
			refusesToRun(t, g, 0, subject, 0, api.MaxSteps, api.ErrTable)
			fits = subject[1:] // which leaves room for one rule more
		}
		if y, e := packrat.Run(g, 0, fits, 0, api.MaxSteps); e != api.OK || len(y.Rows) != api.MaxRows {
			t.Errorf("%s: %s, %v", x.text, brief(told(g, y)), e)
		}
	}
}

// 13.1: rules count from when they are tried, not from when they have ended: d is tried within d at each a, after t at each byte.
func TestRulesThatAreOpenCount(t *testing.T) {
	g := read(t, "s <- &(t*) d t <- . d <- 'a' d / %e")
	a := 5000
	for _, more := range []int{-2, -1, 0, 1, 2} {
		b := api.MaxRows - (1 + a + 1 + a + 1) + more
		subject := times("a", a) + times("b", b)
		if more > 0 {
			refusesToRun(t, g, 0, subject, 0, api.MaxSteps, api.ErrTable)
			continue
		}
		// A sequence, an and, a star, a call and what it calls at each place, a call of d; at each a a choice, a sequence, a, a call; then a choice, a sequence, no a, the empty one.
		ended(t, g, 0, subject, 0, api.MaxSteps, a, 3+2*(a+b+1)+1+4*a+4, api.MaxRows+more)
	}
}

// A stair takes a byte and stands on itself, so that three parts more are open with each byte: the choice, the sequence, the call. Ahead of it stand as many options as are told, and a call.
func stair(options int) api.Grammar {
	return grammar(rule("r", tower(options, op(api.POpt), call("s"))...), rule("s", lit("a"), call("s"), op(api.PSeq), op(api.PEmpty), op(api.PChoice)))
}

// The a that fails at the subject's end is within the options, the call, three parts for each byte, a choice and a sequence.
func within(options, bytes int) int { return options + 1 + 3*bytes + 2 }

// 13.1: parts open at MaxOpen, and one more.
func TestMostOpen(t *testing.T) {
	for options := range 10 {
		for bytes := 5440; bytes < 5470; bytes++ {
			g, subject := stair(options), times("a", bytes)
			if within(options, bytes) >= api.MaxOpen {
				refusesToRun(t, g, 0, subject, 0, api.MaxSteps, api.ErrDeep)
				continue
			}
			ended(t, g, 0, subject, 0, api.MaxSteps, bytes, options+1+4*bytes+4, bytes+2)
		}
	}
	if within(0, 5460) != api.MaxOpen-1 || within(1, 5460) != api.MaxOpen || within(3, 5459) != api.MaxOpen-1 {
		t.Error("the limit is not met")
	}
}

// 13.1: each kind of node counts as one that is open, while its part is tried.
func TestEachKindIsOpen(t *testing.T) {
	for _, n := range []api.Node{
		op(api.PStar), op(api.PPlus), op(api.POpt), op(api.PAnd), op(api.PNot), counted(api.PTimes, 1), counted(api.PLeast, 0), counted(api.PLeast, 1), counted(api.PMost, 1),
		op(api.PSub), op(api.PGroup), op(api.PList), op(api.PSubst), op(api.PString), op(api.PPick),
	} {
		// The a in the front lets all of them be repeated.
		g := stair(0)
		g.Rules[0].Body = list(lit("a"), call("s"), op(api.PSeq), n)
		if _, e := packrat.Run(g, 0, times("a", 5459), 0, api.MaxSteps); e != api.OK {
			t.Error(n, e)
		}
		g.Rules[0].Body = list(lit("a"), call("s"), op(api.PSeq), n, op(api.POpt))
		if _, e := packrat.Run(g, 0, times("a", 5460), 0, api.MaxSteps); e != api.OK {
			t.Error(n, e)
		}
		g.Rules[0].Body = list(lit("a"), call("s"), op(api.PSeq), n, op(api.POpt), op(api.POpt))
		refusesToRun(t, g, 0, times("a", 5460), 0, api.MaxSteps, api.ErrDeep)
		g.Rules[0].Body = list(lit("a"), call("s"), op(api.PSeq), n)
		refusesToRun(t, g, 0, times("a", 5461), 0, api.MaxSteps, api.ErrDeep)
	}
}

// 13.1: what has ended is not open any more, whether it matched or failed, and whether it was tried or the table had it.
func TestWhatEndedIsNotOpen(t *testing.T) {
	deep := times("a", 5459)
	for _, body := range []api.Pattern{
		list(call("s"), call("s"), op(api.PSeq)),
		list(call("s"), op(api.PAnd), call("s"), op(api.PSeq)),
		list(call("s"), op(api.PNot), call("s"), op(api.PChoice)),
		list(call("s"), op(api.PAny), op(api.PSeq), call("s"), op(api.PChoice)),
		list(call("s"), counted(api.PTimes, 50)),
		list(call("s"), op(api.PAnd), counted(api.PTimes, 50)),
		list(call("s"), op(api.PAnd), op(api.PAny), op(api.PSeq), op(api.PStar)),
	} {
		g := stair(0)
		g.Rules[0].Body = body
		if _, e := packrat.Run(g, 0, deep, 0, 1<<22); e != api.OK {
			t.Error(text(g), e)
		}
		refusesToRun(t, g, 0, deep+"aa", 0, api.MaxSteps, api.ErrDeep)
	}
}

// 13.1: what the table has is not too deep: nothing is tried there. d stands on itself ahead of each a, and t, which is within it at the last one, is known if it was tried ahead.
func TestWhatIsKnownIsNotTooDeep(t *testing.T) {
	known := read(t, "s <- &('a'* t) d t <- 'b' d <- t / 'a' d")
	anew := read(t, "s <- &('a'* 'b') d t <- 'b' d <- t / 'a' d")
	for _, a := range []int{5458, 5459, 5460, 5461} {
		subject := times("a", a) + "b"
		// A sequence and a call ahead of three parts for each a: a choice, a sequence, a call. Then a choice and the call of t.
		calls := 2 + 3*a + 1
		// A sequence, an and, a sequence, a star, the a's and what is none, b or a call, a call of d; at each a a choice, a call, no b, a sequence, a, a call; a choice, a call, and b where t is tried anew.
		if calls < api.MaxOpen-1 {
			ended(t, anew, 0, subject, 0, api.MaxSteps, a+1, 4+(a+1)+1+1+6*a+3, 1+2*(a+1))
		} else {
			refusesToRun(t, anew, 0, subject, 0, api.MaxSteps, api.ErrDeep)
		}
		if calls < api.MaxOpen {
			ended(t, known, 0, subject, 0, api.MaxSteps, a+1, 4+(a+1)+2+1+6*a+2, 1+2*(a+1))
		} else {
			refusesToRun(t, known, 0, subject, 0, api.MaxSteps, api.ErrDeep)
		}
	}
	if 2+3*5460+1 != api.MaxOpen-1 {
		t.Error("the limit is not met")
	}
}

// 13.1: the same of a rule that a predicate, or a choice, would let fail: what is stopped fails nothing and matches nothing.
func TestWhatIsStoppedIsNoFailure(t *testing.T) {
	for _, body := range []api.Pattern{
		list(call("s"), op(api.PNot)),
		list(call("s"), op(api.PAnd), op(api.PNot)),
		list(call("s"), op(api.POpt)),
		list(call("s"), op(api.PEmpty), op(api.PChoice)),
		list(call("s"), counted(api.PMost, 2)),
		list(lit("a"), call("s"), op(api.PSeq), op(api.PStar)),
		list(lit("a"), call("s"), op(api.PSeq), counted(api.PLeast, 0)),
		list(call("s"), op(api.PSub)),
	} {
		g := stair(0)
		g.Rules[0].Body = body
		refusesToRun(t, g, 0, times("a", 5500), 0, api.MaxSteps, api.ErrDeep)
		for most := range 20 {
			refusesToRun(t, g, 0, times("a", 5500), 0, most, api.ErrTired)
			refusesToFill(t, g, times("a", 500), most, api.ErrTired)
		}
	}
}

// 13.1: of what comes first, tired or deep; at one moment tired.
func TestTiredOrDeep(t *testing.T) {
	g, subject := stair(1), times("a", 5460)
	// An option, a call, four for each byte; then a choice, a sequence, and the a that is too deep.
	steps := 2 + 4*5460 + 3
	for _, most := range []int{0, 1, steps - 2, steps - 1} {
		refusesToRun(t, g, 0, subject, 0, most, api.ErrTired)
	}
	for _, most := range []int{steps, steps + 1, api.MaxSteps} {
		refusesToRun(t, g, 0, subject, 0, most, api.ErrDeep)
	}
}

// 13.1: of what comes first, tired or the table full; at one moment tired. t behind the last a is one rule too many.
func TestTiredOrFull(t *testing.T) {
	g, subject := read(t, "s <- t* t <- 'a'"), times("a", api.MaxRows-1)
	// A star; at each a a call, and what it calls, behind them a call; then what cannot be tried.
	steps := 1 + 2*len(subject) + 1 + 1
	for _, most := range []int{0, 1, steps - 2, steps - 1} {
		refusesToRun(t, g, 0, subject, 0, most, api.ErrTired)
	}
	for _, most := range []int{steps, steps + 1, api.MaxSteps} {
		refusesToRun(t, g, 0, subject, 0, most, api.ErrTable)
	}
}

// 13.1: of what comes first, deep or the table full; at one moment deep, or tired, if it is that, too. t is tried at each byte; then d at each a, the last one within MaxOpen parts.
func TestDeepOrFull(t *testing.T) {
	g := read(t, "s <- &(t*) d?? t <- . d <- 'a' d / %e")
	a := 5460
	if 2+2+3*a != api.MaxOpen { // a sequence, two options, a call; then a choice, a sequence, a call for each a
		t.Error("the limit is not met")
	}
	for _, more := range []int{-2, -1, 0, 1, 2} {
		// s, t at each place, d at each a but behind the last one.
		bytes := api.MaxRows - 1 - 1 - a + more
		subject := times("a", a) + times("b", bytes-a)
		want, steps := api.ErrDeep, 3+2*(bytes+1)+3+4*a
		if more > 0 { // d is stopped as many a's sooner
			want, steps = api.ErrTable, steps-4*more
		}
		refusesToRun(t, g, 0, subject, 0, api.MaxSteps, want)
		refusesToRun(t, g, 0, subject, 0, steps+1, want)
		refusesToRun(t, g, 0, subject, 0, steps, api.ErrTired)
		refusesToRun(t, g, 0, subject, 0, steps-1, api.ErrTired)
	}
}

// 13.2: MaxRows pairs of a rule and a place, and one more.
func TestMostPairs(t *testing.T) {
	for rules, bytes := range map[int]int{1: 65535, 2: 32767, 3: 21844, 199: 328, 200: 326} {
		if n := rules * (bytes + 1); n > api.MaxRows || n+rules <= api.MaxRows {
			t.Fatal("the limit is not met")
		}
		g := chain(rules)
		l, n, e := packrat.Fill(g, times("a", bytes), api.MaxSteps)
		if e != api.OK || len(l) != rules || n < rules*(bytes+1) {
			t.Fatal(rules, bytes, len(l), n, e)
		}
		for r, row := range l {
			if len(row) != bytes+1 {
				t.Fatal(rules, bytes, r, len(row))
			}
			for at, end := range row {
				want := at + rules - r
				if want > bytes {
					want = -1
				}
				if end != want {
					t.Fatal(rules, bytes, r, at, end)
				}
			}
		}
		for _, most := range []int{0, 1, n, api.MaxSteps} {
			refusesToFill(t, g, times("a", bytes+1), most, api.ErrTable)
		}
		refusesToFill(t, g, times("a", bytes+1), -1, api.ErrRange)
		refusesToFill(t, g, times("a", bytes), n-1, api.ErrTired)
	}
}

// 13.2: nothing is tried within a call, so that no whole table is too deep.
func TestNoFillIsTooDeep(t *testing.T) {
	g, subject := stair(0), times("a", 20000)
	refusesToRun(t, g, 0, subject, 0, api.MaxSteps, api.ErrDeep)
	l, n, e := packrat.Fill(g, subject, api.MaxSteps)
	// r has a call at each place; s a choice, a sequence, an a, and either a call or the empty one.
	if n != 5*(len(subject)+1) || e != api.OK {
		t.Fatal(n, e)
	}
	for at := range len(subject) + 1 {
		if l[0][at] != len(subject) || l[1][at] != len(subject) {
			t.Fatal(at, l[0][at], l[1][at])
		}
	}
}
