package ford_test

import (
	"fmt"
	"slices"
	"strings"
	"testing"

	"harrow/api"
	"harrow/ford"
)

func isLeft(t *testing.T, text string, cycle ...int) {
	t.Helper()
	if v, e := ford.Check(read(t, text)); told(v, e) != told(api.Verdict{Cycle: cycle}, 100) {
		t.Errorf("%s: %s, want the cycle %v", text, told(v, e), cycle)
	}
}

func isLoop(t *testing.T, text string, r, node int) {
	t.Helper()
	if v, e := ford.Check(read(t, text)); told(v, e) != told(api.Verdict{Spot: api.Spot{Rule: r, Node: node}}, 101) {
		t.Errorf("%s: %s, want a loop at %d.%d", text, told(v, e), r, node)
	}
}

func isWellFormed(t *testing.T, texts ...string) {
	t.Helper()
	for _, text := range texts {
		if v, e := ford.Check(read(t, text)); told(v, e) != told(api.Verdict{}, 0) {
			t.Errorf("%s: %s, want no fault", text, told(v, e))
		}
	}
}

// F1: the examples of the chapter, and of the document.
func TestExamples(t *testing.T) {
	isLeft(t, "s <- s 'a' / 'b'", 0)
	isLeft(t, "a <- b 'x' b <- 'y'? a", 0, 1)
	isWellFormed(t, "a <- 'x' a / %e")
	isLoop(t, "('a'?)*", 0, 2)
	isLoop(t, "(!'a')+", 0, 2)
	isLeft(t, "a <- &a 'b'", 0)
	isLoop(t, "('a'* / %e)+ 'b'^0", 0, 4)
	isWellFormed(t, "a <- b b <- c c <- 'x'")
	isWellFormed(t, "'a'*", "{'a'+} 'b'", "s <- 'a' s 'b' / ''", "!'a' .", "{| {[a-z]+} (',' {[a-z]+})* |}", "{~ ('a' -> 'x' / .)* ~}", "{:k: [0-9]+ :}", "&'ab' 'a'", "'a'^2", "'a'^+2", "'a'^-2", "%u{3b1-3c9}")
}

// F1: rules that begin with themselves, through each kind of node that begins with its part.
func TestRuleBehindItself(t *testing.T) {
	for _, text := range []string{
		"s <- s", "s <- s 'a'", "s <- s / 'a'", "s <- 'a' / s", "s <- s*", "s <- s+", "s <- s?", "s <- &s", "s <- !s", "s <- !s 'a'", "s <- 'a' / !s",
		"s <- s^1", "s <- s^2 'a'", "s <- s^+0", "s <- s^+1", "s <- s^-1", "s <- {s}", "s <- {: s :}", "s <- {:k: s :}", "s <- {:s: s :}", "s <- {| s |}", "s <- {~ s ~}", "s <- s -> 'x'", "s <- s -> 0", "s <- s -> 2",
		"s <- 'a'? s", "s <- 'a'* s", "s <- &'a' s", "s <- !'a' s", "s <- 'a'^0 s", "s <- 'a'^+0 s", "s <- 'a'^-2 s", "s <- {} s", "s <- %e s", "s <- {'a'?} s", "s <- ('a' / %e) s", "s <- (%e / 'a') s", "s <- ('a'? 'b'?) s 'c'", "s <- 'a'? ('b'? (s 'c'))", "s <- s^0 s", "s <- !.* s",
	} {
		isLeft(t, text, 0)
	}
}

// F1: what takes a byte ahead, or is not come to, lets a rule call itself.
func TestRuleBehindAByte(t *testing.T) {
	isWellFormed(t,
		"s <- 'a' s", "s <- . s / %e", "s <- [a] s?", "s <- 'a' s*", "s <- 'a' (s / 'b')", "s <- 'a'+ s?", "s <- 'a'^1 s?", "s <- 'a'^+1 s?", "s <- {'a'} s?", "s <- ('a' / 'b') s?", "s <- 'a'? 'b' s?", "s <- &'a' . s?", "s <- ('a'? 'b')+ s?",
		"s <- %f s", "s <- [] s", "s <- s^0", "s <- s^-0", "s <- s^0 'a'", "s <- 'a' / s^-0", "s <- (s 'a')^0", "s <- {s^0}", "s <- 'a'* 'b' !s", "s <- ('a' s)*", "s <- ('a' s)+", "s <- !('a' s)", "s <- 's'", "s <- {:s: 's' :} -> 's'",
	)
}

// F1: rings of two, three and more, alone and behind others.
func TestRings(t *testing.T) {
	isLeft(t, "a <- b b <- a", 0, 1)
	isLeft(t, "a <- b b <- c c <- a", 0, 1, 2)
	isLeft(t, "a <- c b <- a c <- b", 0, 2, 1)
	isLeft(t, "a <- e 'x' b <- c c <- a / 'x' d <- b? e <- &d 'y'", 0, 4, 3, 1, 2)
	isLeft(t, "a <- b b <- c c <- b", 1, 2)
	isLeft(t, "a <- b b <- c / d c <- 'x' d <- e e <- f f <- 'y'? d", 3, 4, 5)
	isLeft(t, "a <- 'x' b b <- b", 1)
	isLeft(t, "a <- b / c b <- d c <- c 'x' d <- d 'y'", 2)
	isWellFormed(t, "a <- b b <- 'x' a", "a <- 'x' b b <- a", "a <- b / c b <- 'x' a c <- 'y' b / 'z' a", "a <- b c b <- 'x' c <- a")
	// Rules that are never come to count as all others.
	isLeft(t, "a <- 'x' b <- b", 1)
	isLeft(t, "a <- 'x' b <- a c <- d d <- c", 2, 3)
	isLoop(t, "a <- 'x' b <- ''*", 1, 1)
}

// F1: of several rules that stand behind themselves the least one, be its way the longest.
func TestLeastRule(t *testing.T) {
	isLeft(t, "a <- a b <- b c <- c", 0)
	isLeft(t, "a <- 'x' b <- b c <- c", 1)
	isLeft(t, "a <- c b <- b c <- a", 0, 2)
	isLeft(t, "a <- b b <- b / c c <- d / c d <- a / d", 0, 1, 2, 3)
	isLeft(t, "a <- b b <- c / b c <- b", 1)
	isLeft(t, "a <- b b <- c c <- d d <- b / d", 1, 2, 3)
}

// F1: of several ways the shortest one; of those as short the one with the least rules, at the first place at which they are unlike.
func TestShortestWay(t *testing.T) {
	isLeft(t, "a <- b / a b <- a", 0)
	isLeft(t, "a <- b / c b <- c c <- a", 0, 2)
	isLeft(t, "a <- b / d b <- c c <- a d <- a", 0, 3)
	isLeft(t, "a <- c / b b <- a c <- a", 0, 1)
	isLeft(t, "a <- d / c / b b <- 'x' c <- a d <- a", 0, 2)
	// 0 1 4 and 0 2 3: unlike first at the second place.
	isLeft(t, "a <- b / c b <- e c <- d d <- a e <- a", 0, 1, 4)
	isLeft(t, "a <- c / b b <- d c <- e d <- a e <- a", 0, 1, 3)
	// 0 1 3 and 0 1 4: at the third one.
	isLeft(t, "a <- b b <- e / d c <- 'x' d <- a e <- a", 0, 1, 3)
	// 0 1 4 and 0 2 4: both come through 4.
	isLeft(t, "a <- c / b b <- e c <- e d <- 'x' e <- a", 0, 1, 4)
	// 0 1 5 ends with more than 0 2 3, and is less all the same; 0 1 2 3 is longer than both.
	isLeft(t, "a <- c / b b <- f / c c <- d d <- a e <- 'x' f <- a", 0, 1, 5)
	// A short way to a rule is no part of the shortest way back, if that rule does not come back soon.
	isLeft(t, "a <- b / e b <- c c <- d d <- a e <- f f <- a", 0, 4, 5)
	isLeft(t, "a <- b / c b <- b c <- c / d d <- d / e e <- a", 0, 2, 3, 4)
}

// firstWayBack tries out all ways of one step, of two, and so on, those of lesser rules first.
func firstWayBack(heads [][]int, r int) []int {
	var try func(way []int, left int) []int
	try = func(way []int, left int) []int {
		for _, h := range heads[way[len(way)-1]] {
			if left == 1 && h == way[0] {
				return way
			}
			if left > 1 {
				if found := try(append(slices.Clone(way), h), left-1); found != nil {
					return found
				}
			}
		}
		return nil
	}
	for steps := 1; steps <= len(heads); steps++ {
		if way := try([]int{r}, steps); way != nil {
			return way
		}
	}
	return nil
}

func firstCycle(heads [][]int) []int {
	for r := range heads {
		if way := firstWayBack(heads, r); way != nil {
			return way
		}
	}
	return nil
}

func holdsCycle(t *testing.T, heads [][]int) {
	t.Helper()
	want, wrong := api.Verdict{Cycle: firstCycle(heads)}, api.Errno(100)
	if want.Cycle == nil {
		wrong = 0
	}
	if v, e := ford.Check(made(heads...)); told(v, e) != told(want, wrong) {
		t.Fatalf("heads %v: %s, want %s", heads, told(v, e), told(want, wrong))
	}
}

// F1: all grammars of up to three rules, as to who begins with whom, and many of four to six.
func TestAllHeads(t *testing.T) {
	for n := 1; n <= 3; n++ {
		for bits := range 1 << (n * n) {
			holdsCycle(t, headsBy(n, bits))
		}
	}
	x := newScramble()
	for range 6000 {
		holdsCycle(t, headsBy(4, x.below(1<<16)))
	}
	for range 3000 {
		holdsCycle(t, headsBy(5, x.below(1<<25)&x.below(1<<25)))
		holdsCycle(t, headsBy(6, x.below(1<<36)&x.below(1<<36)&x.below(1<<36)))
	}
}

// F1: of several loops the first one, by rule and then by node; a rule that stands behind itself comes ahead of all of them.
func TestFirstLoop(t *testing.T) {
	isLoop(t, "''* ''+", 0, 1)
	isLoop(t, "'a' ''* / ''+", 0, 2)
	isLoop(t, "a <- 'x' b <- 'y' ''* c <- ''*", 1, 2)
	isLoop(t, "a <- 'x' 'y' 'z' ''* b <- ''*", 0, 6)
	isLoop(t, "(''*)*", 0, 1)
	isLoop(t, "('a'*)*", 0, 2)
	isLoop(t, "a <- b* b <- ''*", 0, 1)
	isLoop(t, "a <- ''* b <- 'x' a", 0, 1)
	isLeft(t, "a <- ''* a", 0)
	isLeft(t, "a <- ''* b <- b", 1)
	isLeft(t, "a <- a b <- ''*", 0)
	isLeft(t, "a <- ''* b <- 'x' ''+ c <- (d / %e)* d <- c", 2, 3)
	isLeft(t, "a <- (a?)*", 0)
	isLeft(t, "a <- a*", 0)
	isLoop(t, "a <- (b?)* b <- 'x' a", 0, 2)
}

// F1: a rule that may match nothing only through others makes loops and ways.
func TestNothingThroughOthers(t *testing.T) {
	isLoop(t, "a <- b* b <- c c <- d d <- %e", 0, 1)
	isLoop(t, "a <- b* b <- c d c <- 'x'? d <- !c", 0, 1)
	isWellFormed(t, "a <- b* b <- c d c <- 'x'? d <- 'y'")
	isLoop(t, "a <- b+ b <- 'x' / c c <- 'y' b / d d <- {}", 0, 1)
	isLeft(t, "a <- b a / 'x' b <- c c <- d e d <- %e e <- 'y'?", 0)
	isWellFormed(t, "a <- b a / 'x' b <- c c <- d e d <- 'z' e <- 'y'?")
	isLeft(t, "a <- b c b <- 'x' / d c <- a d <- 'y' b / %e", 0, 2)
	// What could be so only by itself is not so: s takes no byte, but may not match nothing.
	isLeft(t, "s <- s t t <- t s", 0)
	isWellFormed(t, "a <- b a b <- 'x' b")
	isWellFormed(t, "a <- b* b <- 'x' b / 'y'")
	isLeft(t, "a <- b a b <- b", 1)
}

// F1: the same rules in other orders.
func TestOtherOrders(t *testing.T) {
	texts := []string{
		"e <- t ('+' t)* t <- f ('*' f)* f <- [0-9]+ / '(' e ')'",
		"a <- 'x' b <- c c <- d d <- b f <- c / g g <- f",
		"a <- b* b <- c c <- d ''* d <- %e e <- 'x'+ ''^+2",
	}
	x := newScramble()
	var grammars []api.Grammar
	for _, text := range texts {
		grammars = append(grammars, read(t, text))
	}
	for i := range 60 {
		grammars = append(grammars, x.grammar(2+i%8, 7))
	}
	for _, g := range grammars {
		_, want := ford.Check(g)
		for range 30 {
			var h api.Grammar
			order := x.order(len(g.Rules))
			for _, r := range order {
				h.Rules = append(h.Rules, g.Rules[r])
			}
			if _, e := ford.Check(h); e != want {
				t.Fatalf("%s in the order %v: %v, want %v", text(g), order, e, want)
			}
			asWords(t, h)
		}
	}
	var ring []string
	for r := range 5 {
		ring = append(ring, fmt.Sprintf("%c <- 'q'? %c", 'a'+r, 'a'+(r+1)%5))
	}
	for range 30 {
		order := x.order(5)
		var text []string
		for _, r := range order {
			text = append(text, ring[r])
		}
		var want []int
		for i := range 5 {
			want = append(want, slices.Index(order, (order[0]+i)%5))
		}
		isLeft(t, strings.Join(text, " "), want...)
	}
}

// F1, F2, F3: grammars of all sorts.
func TestScrambledGrammars(t *testing.T) {
	x := newScramble()
	seen := map[api.Errno]int{}
	for i := range 6000 {
		g := x.grammar(1+i%7, 1+i%9)
		asWords(t, g)
		_, e := ford.Check(g)
		seen[e]++
	}
	if min(seen[0], seen[100], seen[101]) < 500 {
		t.Error("too little was seen:", seen)
	}
	for i := range 100 {
		asWords(t, x.grammar(8+i%30, 1+i%12))
	}
}
