package walk_test

import (
	"slices"
	"testing"

	"harrow/api"
	"harrow/ford"
	"harrow/walk"
)

// asModel holds Walk and Derive of a rule at a place against the model, with enough steps, with just those that it takes, and with fewer; false: the model gave up.
func asModel(t *testing.T, g api.Grammar, r int, s string, at int) bool {
	t.Helper()
	w, is := walkOf(g, r, s, at)
	if !is {
		return false
	}
	steps := len(w.tries)
	for _, most := range []int{steps, steps + 1, api.MaxSteps} {
		if x, n, e := walk.Walk(g, r, s, at, most); !sameResult(x, w.Result) || n != steps || e != api.OK {
			t.Fatalf("Walk(%s, %d, %q, %d, %d): %s, %d steps, %v, want %s, %d steps", text(g), r, s, at, most, told(x), n, e, told(w.Result), steps)
		}
	}
	refusesToWalk(t, g, r, s, at, steps-1, api.ErrTired)
	refusesToWalk(t, g, r, s, at, steps/2, api.ErrTired)
	for _, most := range []int{steps, min(steps+1, api.MaxItems), api.MaxItems} {
		if l, e := walk.Derive(g, r, s, at, most); !slices.Equal(l, w.judgements()) || e != api.OK {
			t.Fatalf("Derive(%s, %d, %q, %d, %d): %v, %v, want %v", text(g), r, s, at, most, l, e, w.judgements())
		}
	}
	refusesToDerive(t, g, r, s, at, steps-1, api.ErrTired)
	return true
}

// endsAsModel holds Ends against the model, likewise.
func endsAsModel(t *testing.T, g api.Grammar, r int, s string) bool {
	t.Helper()
	var want []int
	steps := 0
	for at := range len(s) + 1 {
		w, is := walkOf(g, r, s, at)
		if !is {
			return false
		}
		end := w.End
		if w.Kind == api.Failed {
			end = -1
		}
		want = append(want, end)
		steps += len(w.tries)
	}
	for _, most := range []int{steps, steps + 1, api.MaxSteps} {
		if l, e := walk.Ends(g, r, s, most); !slices.Equal(l, want) || e != api.OK {
			t.Fatalf("Ends(%s, %d, %q, %d): %v, %v, want %v", text(g), r, s, most, l, e, want)
		}
	}
	refusesToTellEnds(t, g, r, s, steps-1, api.ErrTired)
	refusesToTellEnds(t, g, r, s, steps/2, api.ErrTired)
	return true
}

// patternsOf is all right patterns of so many nodes, of a few leaves, all kinds with one part, and both with two.
func patternsOf(size int) []api.Pattern {
	bySize := [][]api.Pattern{nil}
	leaves := []api.Node{op(api.PEmpty), op(api.PFail), op(api.PAny), lit("a"), lit("ab"), set(api.Set{0, 1 << ('b' - 64)}), op(api.PPlace)}
	var above []api.Node
	for _, k := range []int{api.PStar, api.PPlus, api.POpt, api.PAnd, api.PNot, api.PSub, api.PList, api.PSubst} {
		above = append(above, op(k))
	}
	for n := range 3 {
		above = append(above, counted(api.PTimes, n), counted(api.PLeast, n), counted(api.PMost, n))
	}
	above = append(above, worded(api.PGroup, "k"), worded(api.PString, "%1"), counted(api.PPick, 1))
	for n := 1; n <= size; n++ {
		var all []api.Pattern
		if n == 1 {
			for _, x := range leaves {
				all = append(all, list(x))
			}
		}
		for _, p := range bySize[n-1] {
			for _, x := range above {
				all = append(all, append(slices.Clone(p), x))
			}
		}
		for i := 1; i < n-1; i++ {
			for _, p := range bySize[i] {
				for _, q := range bySize[n-1-i] {
					all = append(all, append(slices.Concat(p, q), op(api.PSeq)), append(slices.Concat(p, q), op(api.PChoice)))
				}
			}
		}
		bySize = append(bySize, all)
	}
	return bySize[size]
}

// K1, K2, K3: all small patterns that are well formed, at all places of a few subjects.
func TestSmallPatterns(t *testing.T) {
	for size := 1; size <= 4; size++ {
		seen := 0
		for i, p := range patternsOf(size) {
			g := alone(p...)
			if size == 4 && i%9 > 0 { // it would take long to try them all
				continue
			}
			if _, e := ford.Check(g); e != api.OK {
				continue
			}
			for _, s := range []string{"", "a", "aab", "ba"} {
				for at := range len(s) + 1 {
					if !asModel(t, g, 0, s, at) {
						t.Fatal(text(g), "takes too long")
					}
				}
				endsAsModel(t, g, 0, s)
			}
			seen++
		}
		if size > 2 && seen < 2000 {
			t.Error("too little was seen:", seen)
		}
	}
}

// K1, K2, K3: grammars of all sorts, each rule at each place.
func TestScrambledGrammars(t *testing.T) {
	x := newScramble()
	seen, matched, captured := 0, 0, 0
	for i := range 1200 {
		g := x.wellFormed(1+i%5, 1+i%12)
		s := x.subject(7)
		for r := range g.Rules {
			for at := range len(s) + 1 {
				if !asModel(t, g, r, s, at) {
					continue
				}
				seen++
				y, _, _ := walk.Walk(g, r, s, at, enough)
				if y.Kind == api.Matched {
					matched++
				}
				if len(y.Caps) > 1 {
					captured++
				}
			}
			endsAsModel(t, g, r, s)
		}
	}
	if min(seen, 2*matched) < 6000 || captured < 200 {
		t.Error("too little was seen:", seen, matched, captured)
	}
}

// K1: grammars of a few rules that take long subjects.
func TestLongerSubjects(t *testing.T) {
	x := newScramble()
	for _, text := range []string{
		"e <- t (('+' / '-') t)* t <- f ('*' f)* f <- {[0-9]+} / '(' {e} ')'",
		"s <- {| t* |} t <- {[a-z]} / '(' s ')'",
		"s <- {'a' s 'b'} / {} 'c'?",
		"s <- !('a'+ !'b') ({:k: [ab] :} -> 'x%1' / {~ . ~})* {}",
		"s <- (&([a-c]^+2) {[a-c]} / {| . {}^2 |})^-40 'z'?",
	} {
		g := read(t, text)
		for range 40 {
			var s []byte
			for range x.below(60) {
				s = append(s, "01+-*()ab()abcz"[x.below(15)])
			}
			for r := range g.Rules {
				for at := 0; at <= len(s); at += 1 + x.below(8) {
					if !asModel(t, g, r, string(s), at) {
						t.Fatal(text, "takes too long")
					}
				}
			}
		}
	}
}
