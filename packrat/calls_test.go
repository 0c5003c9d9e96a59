package packrat_test

import (
	"slices"
	"testing"

	"harrow/api"
	"harrow/ford"
	"harrow/packrat"
	"harrow/walk"
)

// 13.1: rows, and steps that are counted by hand. In the remarks stands what is tried, in order; (t) is a call of which the table has what it says.
func TestRowsByHand(t *testing.T) {
	for _, x := range []struct {
		text, subject string
		at            int
		want          string
	}{
		// One call: a call, an a.
		{"s <- t t <- 'a'", "ba", 1, "to 2 in 2: s1>2 t1>2"},
		{"s <- t t <- 'a'", "ba", 0, "fails in 2: s0! t0!"},
		{"s <- t t <- 'a'", "ba", 2, "fails in 2: s2! t2!"},
		// Twice at one place, from two parts of one pattern: a sequence, an and, a call, an a, (t).
		{"s <- &t t t <- 'a'", "a", 0, "to 1 in 5: s0>1 t0>1"},
		{"s <- &t t t <- 'a'", "b", 0, "fails in 4: s0! t0!"},
		{"s <- &t t t <- 'a'", "ba", 1, "to 2 in 5: s1>2 t1>2"},
		// At two places, each once: a sequence, a call, an a, a call, an a.
		{"s <- t t t <- 'a'", "aa", 0, "to 2 in 5: s0>2 t0>1 t1>2"},
		{"s <- t t t <- 'a'", "ab", 0, "fails in 5: s0! t0>1 t1!"},
		{"s <- t t t <- 'a'", "a", 0, "fails in 5: s0! t0>1 t1!"},
		// At one place again, since what stood between took nothing: a sequence, a sequence, a call, an option, an a that fails, (t), (t).
		{"s <- t t t t <- 'a'?", "b", 0, "to 0 in 7: s0>0 t0>0"},
		// From two rules: a choice, a sequence, u, t, an a, an x that fails, v, (t).
		{"s <- u 'x' / v u <- t v <- t t <- 'a'", "ay", 0, "to 1 in 8: s0>1 u0>1 v0>1 t0>1"},
		{"s <- u 'x' / v u <- t v <- t t <- 'a'", "ax", 0, "to 2 in 6: s0>2 u0>1 t0>1"},
		// Within a predicate: a choice, a sequence, a not, a call, an a, (t); or b.
		{"s <- !t 'b' / t t <- 'a'", "a", 0, "to 1 in 6: s0>1 t0>1"},
		{"s <- !t 'b' / t t <- 'a'", "b", 0, "to 1 in 6: s0>1 t0!"},
		{"s <- !(t 'x') t t <- 'a'", "ay", 0, "to 1 in 7: s0>1 t0>1"},
		{"s <- !!t t t <- 'a'", "a", 0, "to 1 in 6: s0>1 t0>1"},
		// By a part that failed afterwards, a repetition's: a star; a choice, a sequence, t, an option, an a, no x, a sequence, (t), a y; then the same with an x; then neither.
		{"s <- (t 'x' / t 'y')* t <- 'a'?", "ayax", 0, "to 4 in 25: s0>4 t0>1 t2>3 t4>4"},
		// What failed there, called again: three choices, t, an a that fails, (t), (t), b.
		{"s <- t / t / t / 'b' t <- 'a'", "b", 0, "to 1 in 8: s0>1 t0!"},
		{"s <- t / t / t / 'b' t <- 'a'", "c", 0, "fails in 8: s0! t0!"},
		{"s <- t / !t t <- 'a'", "b", 0, "to 0 in 5: s0>0 t0!"},
		{"s <- (t / 'b')* t? t <- 'a'", "bab", 0, "to 3 in 19: s0>3 t0! t1>2 t2! t3!"},
		// A ring: a choice, a sequence, a, t; a choice, a sequence, a sequence, b, s; a choice, a sequence, no a, c; no x, a sequence, b, (s).
		{"s <- 'a' t / 'c' t <- 'b' s 'x' / 'b' s", "abc", 0, "to 3 in 17: s0>3 s2>3 t1>3"},
		{"s <- 'a' t / 'c' t <- 'b' s 'x' / 'b' s", "abcx", 0, "to 4 in 14: s0>4 s2>3 t1>4"},
		{"s <- 'a' t / 'c' t <- 'b' s 'x' / 'b' s", "ab", 0, "fails in 17: s0! s2! t1!"},
		// Of what nothing calls on the way there is no row.
		{"s <- 'a' / t t <- u u <- 'b' v <- s", "a", 0, "to 1 in 2: s0>1"},
		{"s <- 'a' / t t <- u u <- 'b' v <- s", "b", 0, "to 1 in 5: s0>1 t0>1 u0>1"},
		{"s <- %f t / %e / t t <- 'a'", "a", 0, "to 0 in 5: s0>0"},
		{"s <- t^0 t^-0 t <- 'a'", "a", 0, "to 0 in 3: s0>0"},
		{"s <- 'b' t / 'a' t <- .", "a", 0, "to 1 in 4: s0>1"},
		// Captures do what their parts do: a list, a sequence, a sub, t, an a, a group, an and, (t).
		{"s <- {| {t}? {:k: !t :} |} t <- {'a'} / {} 'b'", "c", 0, "to 0 in 14: s0>0 t0!"},
		// The first byte, the last one, and behind them.
		{"s <- t* !. t <- [a-b]", "ab", 0, "to 2 in 10: s0>2 t0>1 t1>2 t2!"},
		{"s <- t* !. t <- [a-b]", "ab", 2, "to 2 in 6: s2>2 t2!"},
		{"s <- t* !. t <- [a-b]", "", 0, "to 0 in 6: s0>0 t0!"},
	} {
		goes(t, read(t, x.text), 0, x.subject, x.at, x.want)
	}
}

// 13.1, 13.4: steps that are counted by hand, with a table and without: what a call tries again without one stands in the remark.
func TestStepsWithATableAndWithout(t *testing.T) {
	for _, x := range []struct {
		text, subject string
		with, without int
	}{
		{"s <- a 'x' / a 'y' a <- 'b' a / 'b'", "bby", 20, 20 + 13},    // a choice, a sequence, b, a call: twice; a choice, a sequence, no b, no b; b
		{"s <- &t t t <- 'a'", "a", 5, 5 + 1},                          // an a
		{"s <- t / t / t / 'b' t <- 'a'", "b", 8, 8 + 2},               // twice no a
		{"s <- u 'x' / v u <- t v <- t t <- 'a'", "ay", 8, 8 + 1},      // an a, of t, of v
		{"s <- 'a' s 'x' / 'a' s 'y' / %e", "a", 22, 22 + 9},           // what s does behind the a
		{"s <- 'a' s 'x' / 'a' s 'y' / %e", "aa", 35, 35 + 9 + 31},     // that of the last s, within the second one; and all of the second one
		{"s <- 'a' t / 'c' t <- 'b' s 'x' / 'b' s", "abc", 17, 17 + 4}, // a choice, a sequence, no a, c
		{"s <- t t t <- 'a'", "aa", 5, 5},                              // nothing
		{"s <- t* t <- 'a'", "aab", 7, 7},                              // nothing
	} {
		g := read(t, x.text)
		y, e := packrat.Run(g, 0, x.subject, 0, enough)
		_, steps, f := walk.Walk(g, 0, x.subject, 0, enough)
		if y.Steps != x.with || steps != x.without || e != api.OK || f != api.OK {
			t.Errorf("%s of %q: %d steps, %v, %d without, %v, want %d, %d", x.text, x.subject, y.Steps, e, steps, f, x.with, x.without)
		}
	}
}

// 13.1: a run of another rule than the first one, and behind the subject's beginning: the run's rule is called again behind where it began, in a ring that takes a byte.
func TestRunOfEachRule(t *testing.T) {
	g := read(t, "s <- 'a' t / 'c' t <- 'b' s 'x' / 'b' s u <- s / t")
	goes(t, g, 1, "abc", 1, "to 3 in 13: s2>3 t1>3")
	goes(t, g, 1, "abc", 0, "fails in 6: t0!")
	goes(t, g, 2, "abc", 1, "to 3 in 20: s1! s2>3 t1>3 u1>3")
	goes(t, g, 2, "abc", 0, "to 3 in 19: s0>3 s2>3 t1>3 u0>3")
	// A choice, a call; a choice, a sequence, no a, no c; a call; a choice, two sequences, no b, a sequence, no b.
	goes(t, g, 2, "abc", 3, "fails in 13: s3! t3! u3!")
	// The run's rule, twice at one place behind where it began.
	goes(t, read(t, "s <- 'x' (s 'y' / s 'z') / 'a'"), 0, "xaz", 0, "to 3 in 14: s0>3 s1>2")
	goes(t, read(t, "s <- 'x' (s 'y' / s 'z') / 'a'"), 0, "xaz", 1, "to 2 in 4: s1>2")
	// A rule's number is where it stands, also where it calls what stands ahead of it.
	goes(t, read(t, "tt <- 'b' t <- 'a' ttt <- 'c' s <- t / tt"), 3, "b", 0, "to 1 in 5: tt0>1 t0! s0>1")
	goes(t, read(t, "T <- 'a' t <- 'b' s <- T t"), 2, "ab", 0, "to 2 in 5: T0>1 t1>2 s0>2")
}

// 13.1, 13.4: what takes a walk twice as long with each byte takes a run 13 steps more: a choice in a choice, two sequences, a, a call, no x, two sequences, a, (s), no y, the empty one. At the end of the a's there are 9.
func TestLongRun(t *testing.T) {
	g := read(t, "s <- 'a' s 'x' / 'a' s 'y' / %e")
	for _, n := range []int{0, 1, 2, 63, 64, 65, 127, 128, 3000} {
		want := api.Table{Kind: api.Matched, Steps: 13*n + 9}
		for at := range n + 1 {
			want.Rows = append(want.Rows, api.Row{Rule: 0, At: at, End: at})
		}
		runs(t, g, 0, times("a", n), 0, want)
	}
}

// 13.1: rows of many rules at places that lie far from one another: a sequence, 255 bytes and a call in each but the last one.
func TestRowsFarAndWide(t *testing.T) {
	var g api.Grammar
	subject := ""
	for r := range 200 {
		bytes := string([]byte{byte(r)}) + times("-", 254)
		subject += bytes
		g.Rules = append(g.Rules, rule(nameOf(r), lit(bytes), call(nameOf(r+1)), op(api.PSeq)))
	}
	g.Rules[199].Body = g.Rules[199].Body[:1]
	want := api.Table{Kind: api.Matched, End: 200 * 255, Steps: 199*3 + 1}
	for r := range 200 {
		want.Rows = append(want.Rows, api.Row{Rule: r, At: r * 255, End: 200 * 255})
	}
	runs(t, g, 0, subject, 0, want)
	// The other way round, the rows rise by rules all the same.
	slices.Reverse(g.Rules)
	slices.Reverse(want.Rows)
	for r := range want.Rows {
		want.Rows[r].Rule = r
	}
	runs(t, g, 199, subject, 0, want)
}

// 13.2: whole tables by hand, of rules in an order of their own, with the steps of each.
func TestFillByHand(t *testing.T) {
	for _, x := range []struct {
		text, subject string
		order         []int
		want          [][]int
		steps         int
	}{
		// u: its set, at each place; t: a sequence, an option, a call, an a; s: a choice, a sequence, a call, an x or a call.
		{"s <- t 'x' / u t <- u? 'a' u <- [b]", "bax", []int{2, 1, 0}, [][]int{{3, 3, -1, -1}, {2, 2, -1, -1}, {1, -1, -1, -1}}, 4*1 + 4*4 + 4*4},
		// b: its byte, at each place; a: a choice, a sequence, a call of b, and either a call of a, or one of b, or both.
		{"a <- b a / b b <- 'b'", "bb", []int{1, 0}, [][]int{{2, 2, -1}, {1, 2, -1}}, 3*1 + 4 + 5 + 4},
		// A rule that is called behind a byte may stand anywhere in the order.
		{"s <- 'a' t / %e t <- 'b' s", "abab", []int{0, 1}, [][]int{{4, 1, 4, 3, 4}, {-1, 4, -1, 4, -1}}, 4 + 4 + 4 + 4 + 4 + 2 + 3 + 2 + 3 + 2},
		{"s <- &t !u 'a' t <- [a-b] u <- 'b'", "ab", []int{1, 2, 0}, [][]int{{1, -1, -1}, {1, 2, -1}, {-1, 2, -1}}, 3 + 3 + 7 + 6 + 4},
		{"s <- t t <- %e", "", []int{1, 0}, [][]int{{0}, {0}}, 2},
		{"s <- t* t <- u 'x'? u <- [ab]", "axb", []int{2, 1, 0}, [][]int{{3, 1, 3, 3}, {2, -1, 3, -1}, {1, -1, 3, -1}}, 4*1 + 4 + 2 + 4 + 2 + 4 + 2 + 3 + 2},
	} {
		g := read(t, x.text)
		if order, e := ford.Order(g); !slices.Equal(order, x.order) || e != api.OK {
			t.Errorf("the order of %s: %v, %v", x.text, order, e)
		}
		fills(t, g, x.subject, x.want, x.steps)
	}
}

// 13.2: as many rules as there may be, each of which begins with the one behind it: the order is from the last one on.
func TestFillOfChains(t *testing.T) {
	var g api.Grammar
	for r := range 199 {
		g.Rules = append(g.Rules, rule(nameOf(r), call(nameOf(r+1))))
	}
	g.Rules = append(g.Rules, rule(nameOf(199), lit("a"), op(api.PPlus)))
	row := []int{2, 2, -1, 4, -1}
	// A call at each place in each rule; a plus and an a in the last one, one more for each a that matches there.
	fills(t, g, "aaba", slices.Repeat([][]int{row}, 200), 199*5+4+3+2+3+2)
	// Where the last one is called again at places ahead, there is nothing more to do.
	slices.Reverse(g.Rules)
	fills(t, g, "aaba", slices.Repeat([][]int{row}, 200), 199*5+4+3+2+3+2)
}
