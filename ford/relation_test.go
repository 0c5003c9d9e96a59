package ford_test

import (
	"slices"
	"strings"
	"testing"

	"harrow/api"
	"harrow/ford"
)

// A walker goes by the relation, and writes down whether a rule was asked for at a place at which it was open already, and whether the part of a loop took no byte.
type walker struct {
	g            api.Grammar
	subject      string
	steps        int
	open         []api.Judgement
	again, still bool
}

// from is where a pattern goes to from i; -1: it fails, or the walk is broken off.
func (w *walker) from(p api.Pattern, i int) int {
	w.steps--
	if w.steps < 0 || w.again || w.still {
		return -1
	}
	n, first, second := cutParts(p)
	takes := func(is bool, size int) int {
		if !is {
			return -1
		}
		return i + size
	}
	switch n.Op {
	case api.PEmpty, api.PPlace:
		return i
	case api.PFail:
		return -1
	case api.PAny:
		return takes(i < len(w.subject), 1)
	case api.PText:
		return takes(strings.HasPrefix(w.subject[i:], n.Text), len(n.Text))
	case api.PSet:
		return takes(i < len(w.subject) && n.Set[w.subject[i]/64]>>(w.subject[i]%64)&1 == 1, 1)
	case api.PCall:
		return w.rule(slices.IndexFunc(w.g.Rules, func(x api.Rule) bool { return x.Name == n.Text }), i)
	case api.PSeq:
		j := w.from(first, i)
		if j < 0 {
			return -1
		}
		return w.from(second, j)
	case api.PChoice:
		if j := w.from(first, i); j >= 0 {
			return j
		}
		return w.from(second, i)
	case api.PAnd, api.PNot:
		return takes((w.from(first, i) >= 0) == (n.Op == api.PAnd), 0)
	}
	return w.repeat(n, first, i)
}

func (w *walker) rule(r, i int) int {
	now := api.Judgement{Rule: r, At: i}
	if slices.Contains(w.open, now) {
		w.again = true
		return -1
	}
	w.open = append(w.open, now)
	j := w.from(w.g.Rules[r].Body, i)
	w.open = w.open[:len(w.open)-1]
	return j
}

func (w *walker) repeat(n api.Node, p api.Pattern, i int) int {
	least, most := 1, 1
	switch n.Op {
	case api.PStar:
		least, most = 0, -1
	case api.PPlus:
		most = -1
	case api.POpt:
		least = 0
	case api.PTimes:
		least, most = n.N, n.N
	case api.PLeast:
		least, most = n.N, -1
	case api.PMost:
		least, most = 0, n.N
	}
	for count := 0; count != most; count++ {
		j := w.from(p, i)
		if j < 0 && count < least {
			return -1
		}
		if j < 0 {
			break
		}
		if j == i && most < 0 {
			w.still = true
			return -1
		}
		i = j
	}
	return i
}

// walks says whether some rule was asked for again at its place, and whether some loop stood still, from each rule, at each place of all short subjects.
func walks(g api.Grammar) (again, still bool) {
	for _, s := range []string{"", "a", "b", "aa", "ab", "ba", "bb", "aab", "aba", "abab", "bbaa"} {
		for r := range g.Rules {
			for i := range len(s) + 1 {
				w := walker{g: g, subject: s, steps: 1 << 11}
				w.rule(r, i)
				again = again || w.again
				still = still || w.still
			}
		}
	}
	return again, still
}

// F1: of a well-formed grammar no rule is asked for again at a place at which it is open, and the part of a loop always takes a byte.
func TestWellFormedGrammarsGoOn(t *testing.T) {
	x := newScramble()
	seen := 0
	for i := 0; seen < 3000; i++ {
		g := x.grammar(1+i%5, 1+i%10)
		if _, e := ford.Check(g); e != api.OK {
			continue
		}
		seen++
		if again, still := walks(g); again || still {
			t.Fatalf("%s: again %v, still %v", text(g), again, still)
		}
	}
}

// F1: grammars that are refused, and do go round or stand still.
func TestRefusedGrammarsGoRound(t *testing.T) {
	for _, text := range []string{"s <- s 'a' / 'b'", "a <- b 'x' b <- 'y'? a", "a <- 'c' / &a 'b'", "a <- 'x' b <- c c <- !d d <- 'y'* b"} {
		g := read(t, text)
		if again, _ := walks(g); !again {
			t.Error(text, "does not go round")
		}
		if _, e := ford.Check(g); e != api.ErrLeft {
			t.Error(text, e)
		}
	}
	for _, text := range []string{"('a'?)*", "(!'a')+", "s <- 'a' t <- ''^+3", "('a'* / %e)+ 'b'^0", "s <- (t 'b'?)* t <- {} / s^0"} {
		g := read(t, text)
		if _, still := walks(g); !still {
			t.Error(text, "does not stand still")
		}
		if _, e := ford.Check(g); e != api.ErrLoop {
			t.Error(text, e)
		}
	}
}
