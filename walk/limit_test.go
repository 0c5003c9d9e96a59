package walk_test

import (
	"slices"
	"testing"

	"harrow/api"
	"harrow/walk"
)

// takesSteps holds a walk of a grammar's first rule against how many steps it takes: with these and with more it ends alike, with less it is tired.
func takesSteps(t *testing.T, g api.Grammar, subject string, at int, want string, steps int) {
	t.Helper()
	for _, most := range []int{steps, steps + 1, 2 * steps, api.MaxSteps} {
		if x, n, e := walk.Walk(g, 0, subject, at, most); told(x) != want || n != steps || e != api.OK {
			t.Errorf("%s at %d of %q, with %d: %s, %d steps, %v, want %s, %d", text(g), at, subject, most, told(x), n, e, want, steps)
		}
	}
	for _, most := range []int{0, 1, steps / 2, steps - 1} {
		if most < steps {
			refusesToWalk(t, g, 0, subject, at, most, api.ErrTired)
		}
	}
}

// K1: steps that are counted by hand. In the remarks stands what is tried, in order.
func TestStepsByHand(t *testing.T) {
	for _, x := range []struct {
		text, subject string
		at            int
		want          string
		steps         int
	}{
		{"%e", "", 0, "0", 1},
		{"'a' 'b' 'c'", "abc", 0, "3", 5},       // a sequence, one in it, a, b, c
		{"'a' 'b' 'c'", "abd", 0, "fails", 5},   // as above
		{"'a' 'b' 'c'", "acc", 0, "fails", 4},   // no c
		{"'a' 'b' 'c'", "bbc", 0, "fails", 3},   // a alone
		{"'a' ('b' 'c')", "bbc", 0, "fails", 2}, // the other way round: a sequence, a
		{"'a' / 'b' / 'c'", "c", 0, "1", 5},     // a choice, one in it, a, b, c
		{"'a' / 'b' / 'c'", "b", 0, "1", 4},     // no c
		{"'a' / 'b' / 'c'", "a", 0, "1", 3},     // a alone
		{"'a' / ('b' / 'c')", "a", 0, "1", 2},   // the other way round: a choice, a
		{"('a' 'b')*", "ababa", 0, "4", 10},     // a star, three sequences, a b a b a b
		{"('a' 'b')*", "abab", 2, "4", 6},       // a star, two sequences, a b a
		{"('a'? 'b')*", "bab", 0, "3", 13},      // a star; thrice: a sequence, an option, a, b
		{"('a' / 'b')+ !.", "ba", 0, "2", 12},   // a sequence, a plus; a choice, a, b; a choice, a; a choice, a, b; a not, any byte
		{"&('a' 'b') 'a'", "ab", 0, "1", 6},     // a sequence, an and, a sequence, a, b, a
		{"!('a' 'b') 'a'", "ab", 0, "fails", 5}, // a sequence, a not, a sequence, a, b
		{"('a'^2)^2", "aaaa", 0, "4", 7},        // times, twice: times, a, a
		{"('a'^-2)^2", "aaa", 0, "3", 7},        // times; most, a, a; most, a, a
		{"('a'^-2)^3", "aaa", 0, "3", 9},        // as above, and most, a
		{"('a'^+2)^-2", "aaa", 0, "3", 8},       // most; least, four a; least, a
		{"(('a'^0)^-0)?", "a", 0, "0", 2},       // an option, most
		{"{:k: {'a'} {} :} -> 1", "a", 0, "1 pick[1] 0-1(group[k0] 0-1(sub 0-1, place 1-1))", 6}, // a pick, a group, a sequence, a sub, a, a place
		{"s <- t t t <- 'a' / u u <- 'b'", "ba", 0, "2", 9},                                      // a sequence; a call, a choice, a, a call, b; a call, a choice, a
		{"s <- t / t t <- !u 'a' u <- 'b'", "b", 0, "fails", 11},                                 // a choice; twice: a call, a sequence, a not, a call, b: and nothing more
		{"s <- 'a' s / %e", "aaa", 0, "3", 16},                                                   // thrice: a choice, a sequence, a, a call; then a choice, a sequence, a, the empty one
		{"a <- 'x' b / 'y' b <- 'p' a / 'q'", "xpxq", 0, "4", 16},                                // thrice: a choice, a sequence, a byte, a call; then a choice, a sequence, p, q
	} {
		takesSteps(t, read(t, x.text), x.subject, x.at, x.want, x.steps)
	}
}

// K1: the walk of exactly MaxSteps steps, and that of one more. The a's are gone over again from each of their places, the b's once.
func TestMostSteps(t *testing.T) {
	g := read(t, "(&'a'* 'a')* 'b'*")
	a := 5780
	// A sequence, a star; at each a a sequence, an and, a star, the a's that are left and what is no a, an a; behind them a sequence, an and, a star, two that are no a; a star, the b's and what is no b.
	steps := 2 + a*5 + a*(a+1)/2 + 5 + 2
	b := api.MaxSteps - steps
	subject := times("a", a) + times("b", b)
	x, n, e := walk.Walk(g, 0, subject, 0, api.MaxSteps)
	if told(x) != fmtEnd(a+b) || n != api.MaxSteps || e != api.OK {
		t.Error(told(x), n, e)
	}
	refusesToWalk(t, g, 0, subject, 0, api.MaxSteps-1, api.ErrTired)
	refusesToWalk(t, g, 0, subject+"b", 0, api.MaxSteps, api.ErrTired)
	refusesToWalk(t, g, 0, subject, 0, api.MaxSteps+1, api.ErrRange)
	if _, n, e := walk.Walk(g, 0, subject+"b", 1, api.MaxSteps); n != api.MaxSteps-5-a+1 || e != api.OK {
		t.Error(n, e)
	}
}

// A stair takes a byte and stands on itself, so that three parts more are open with each byte: the choice, the sequence, the call. Ahead of it stand as many options as are told, and a call.
func stair(options int) api.Grammar {
	return grammar(rule("r", tower(options, op(api.POpt), call("s"))...), rule("s", lit("a"), call("s"), op(api.PSeq), op(api.PEmpty), op(api.PChoice)))
}

// The a that fails at the subject's end is within the options, the call, three parts for each byte, a choice and a sequence.
func within(options, bytes int) int { return options + 1 + 3*bytes + 2 }

// K1: parts open at MaxOpen, and one more.
func TestMostOpen(t *testing.T) {
	for options := range 10 {
		for bytes := 5440; bytes < 5470; bytes++ {
			g, subject := stair(options), times("a", bytes)
			if within(options, bytes) >= api.MaxOpen {
				refusesToWalk(t, g, 0, subject, 0, api.MaxSteps, api.ErrDeep)
				continue
			}
			x, n, e := walk.Walk(g, 0, subject, 0, api.MaxSteps)
			if told(x) != fmtEnd(bytes) || n != options+1+4*bytes+4 || e != api.OK {
				t.Errorf("%d bytes within %d options: %s, %d, %v", bytes, options, told(x), n, e)
			}
		}
	}
	if within(0, 5460) != api.MaxOpen-1 || within(1, 5460) != api.MaxOpen || within(3, 5459) != api.MaxOpen-1 {
		t.Error("the limit is not met")
	}
}

// K1: each kind of node counts as one that is open, while its part is tried.
func TestEachKindIsOpen(t *testing.T) {
	for _, n := range []api.Node{
		op(api.PStar), op(api.PPlus), op(api.POpt), op(api.PAnd), op(api.PNot), counted(api.PTimes, 1), counted(api.PLeast, 0), counted(api.PLeast, 1), counted(api.PMost, 1),
		op(api.PSub), op(api.PGroup), op(api.PList), op(api.PSubst), op(api.PString), op(api.PPick),
	} {
		// The a in the front lets all of them be repeated.
		g := stair(0)
		g.Rules[0].Body = list(lit("a"), call("s"), op(api.PSeq), n)
		if _, _, e := walk.Walk(g, 0, times("a", 5459), 0, api.MaxSteps); e != api.OK {
			t.Error(n, e)
		}
		g.Rules[0].Body = list(lit("a"), call("s"), op(api.PSeq), n, op(api.POpt))
		if _, _, e := walk.Walk(g, 0, times("a", 5460), 0, api.MaxSteps); e != api.OK {
			t.Error(n, e)
		}
		g.Rules[0].Body = list(lit("a"), call("s"), op(api.PSeq), n, op(api.POpt), op(api.POpt))
		refusesToWalk(t, g, 0, times("a", 5460), 0, api.MaxSteps, api.ErrDeep)
		g.Rules[0].Body = list(lit("a"), call("s"), op(api.PSeq), n)
		refusesToWalk(t, g, 0, times("a", 5461), 0, api.MaxSteps, api.ErrDeep)
	}
}

// K1: what has ended is not open any more, whether it matched or failed.
func TestWhatEndedIsNotOpen(t *testing.T) {
	deep := times("a", 5459)
	for _, body := range []api.Pattern{
		list(call("s"), call("s"), op(api.PSeq)),
		list(call("s"), op(api.PAnd), call("s"), op(api.PSeq)),
		list(call("s"), op(api.PNot), call("s"), op(api.PChoice)),
		list(call("s"), op(api.PAny), op(api.PSeq), call("s"), op(api.PChoice)),
		list(call("s"), counted(api.PTimes, 50)),
		list(call("s"), op(api.PAnd), counted(api.PTimes, 50)),
		list(call("s"), op(api.PAnd), op(api.PAny), op(api.PSeq), op(api.PStar)),
	} {
		g := stair(0)
		g.Rules[0].Body = body
		if _, _, e := walk.Walk(g, 0, deep, 0, 1<<22); e != api.OK && e != api.ErrTired {
			t.Error(text(g), e)
		}
		refusesToWalk(t, g, 0, deep+"aa", 0, api.MaxSteps, api.ErrDeep)
	}
}

// K1: of what comes first. A step that is too deep, and one more than most, is told as tired: the chapter names it first.
func TestTiredOrDeep(t *testing.T) {
	g, subject := stair(1), times("a", 5460)
	// An option, a call, four for each byte; then a choice, a sequence, and the a that is too deep.
	steps := 2 + 4*5460 + 3
	for _, most := range []int{0, 1, steps - 2, steps - 1} {
		refusesToWalk(t, g, 0, subject, 0, most, api.ErrTired)
	}
	for _, most := range []int{steps, steps + 1, api.MaxSteps} {
		refusesToWalk(t, g, 0, subject, 0, most, api.ErrDeep)
	}
	// What would be too deep, but comes behind what is tired; and the other way round.
	g = stair(0)
	g.Rules[0].Body = list(lit("b"), op(api.PStar), call("s"), op(api.PSeq))
	refusesToWalk(t, g, 0, times("b", 5000)+times("a", 6000), 0, 4000, api.ErrTired)
	refusesToWalk(t, g, 0, times("b", 5000)+times("a", 6000), 0, 5003+4*5460, api.ErrTired)
	refusesToWalk(t, g, 0, times("b", 5000)+times("a", 6000), 0, 5003+4*5460+10, api.ErrDeep)
	g.Rules[0].Body = list(call("s"), lit("b"), op(api.PStar), op(api.PSeq))
	refusesToWalk(t, g, 0, times("a", 6000)+times("b", 5000), 0, api.MaxSteps, api.ErrDeep)
	refusesToWalk(t, g, 0, times("a", 5000)+times("b", 5000), 0, 4*5000+4+2+5000, api.ErrTired)
}

// K1: the same of a rule that a predicate, or a choice, would let fail: what is stopped fails nothing and matches nothing.
func TestWhatIsStoppedIsNoFailure(t *testing.T) {
	for _, body := range []api.Pattern{
		list(call("s"), op(api.PNot)),
		list(call("s"), op(api.PAnd), op(api.PNot)),
		list(call("s"), op(api.POpt)),
		list(call("s"), op(api.PEmpty), op(api.PChoice)),
		list(call("s"), counted(api.PMost, 2)),
		list(lit("a"), call("s"), op(api.PSeq), op(api.PStar)),
		list(lit("a"), call("s"), op(api.PSeq), counted(api.PLeast, 0)),
		list(call("s"), op(api.PSub)),
	} {
		g := stair(0)
		g.Rules[0].Body = body
		refusesToWalk(t, g, 0, times("a", 5500), 0, api.MaxSteps, api.ErrDeep)
		for most := range 20 {
			refusesToWalk(t, g, 0, times("a", 5500), 0, most, api.ErrTired)
			refusesToDerive(t, g, 0, times("a", 5500), 0, most, api.ErrTired)
		}
	}
}

// K2: all places together take just most steps, and one less is too few, wherever the last ones are taken.
func TestEndsTakeMostSteps(t *testing.T) {
	for _, x := range []struct {
		text, subject string
		want          []int
		steps         int
	}{
		{"'a'*", "aab", []int{2, 2, 2, 3}, 4 + 3 + 2 + 2},
		{"'a'*", "", []int{0}, 2},
		{"%e", "", []int{0}, 1},
		{"%f", "abc", []int{-1, -1, -1, -1}, 4},
		{"s <- 'a' s 'b' / %e", "aabb", []int{4, 3, 2, 3, 4}, 17 + 11 + 3*5},
		{". .* / {}", "aaa", []int{3, 3, 3, 3}, 7 + 6 + 5 + 4},
	} {
		g := read(t, x.text)
		for _, most := range []int{x.steps, x.steps + 1, api.MaxSteps} {
			if l, e := walk.Ends(g, 0, x.subject, most); !slices.Equal(l, x.want) || e != api.OK {
				t.Errorf("Ends(%s, %q, %d): %v, %v, want %v", x.text, x.subject, most, l, e, x.want)
			}
		}
		for most := range x.steps {
			refusesToTellEnds(t, g, 0, x.subject, most, api.ErrTired)
		}
	}
	// As many places as there may be.
	subject := times("ab", api.MaxSubject/2)
	l, e := walk.Ends(read(t, "'a'"), 0, subject, api.MaxSubject+1)
	if len(l) != api.MaxSubject+1 || e != api.OK {
		t.Fatal(len(l), e)
	}
	for at, end := range l {
		if want := at + 1; at%2 == 0 && at < len(subject) && end != want || (at%2 == 1 || at == len(subject)) && end != -1 {
			t.Fatal(at, end)
		}
	}
	refusesToTellEnds(t, read(t, "'a'"), 0, subject, api.MaxSubject, api.ErrTired)
}

// K2: place by place, what is too deep at one is told, where it comes ahead of what is tired; where Walk says so at that place, whatever those ahead of it took.
func TestEndsOfDeepPlaces(t *testing.T) {
	// At a b it takes two steps, at the a's it is a stair: a choice and a b ahead of a call, and four steps for each a.
	g := stair(0)
	g.Rules[0].Body = list(lit("b"), call("s"), op(api.PChoice))
	fits, deep := times("a", 5459), times("a", 5460)
	steps := 3 + 4*5460 + 3
	if l, e := walk.Ends(g, 0, "bbb"+times("a", 100), api.MaxSteps); len(l) != 104 || e != api.OK {
		t.Error(len(l), e)
	}
	refusesToTellEnds(t, g, 0, deep+"b", api.MaxSteps, api.ErrDeep)
	refusesToTellEnds(t, g, 0, "b"+deep, api.MaxSteps, api.ErrDeep)
	refusesToTellEnds(t, g, 0, "b"+deep, 10, api.ErrTired)
	refusesToTellEnds(t, g, 0, "b"+deep, steps-1, api.ErrTired)
	refusesToTellEnds(t, g, 0, "b"+deep, steps, api.ErrDeep)
	refusesToTellEnds(t, g, 0, "b"+deep, steps+1, api.ErrDeep)
	refusesToTellEnds(t, g, 0, "b"+deep, steps+2, api.ErrDeep)
	refusesToTellEnds(t, g, 0, times("b", steps)+deep, steps, api.ErrTired)
	refusesToTellEnds(t, g, 0, times("b", 100)+fits, steps, api.ErrTired)
}
