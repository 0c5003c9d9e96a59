package rules_test

import (
	"slices"
	"testing"

	"harrow/api"
	"harrow/rules"
)

func found(t *testing.T, g api.Grammar, name string, want int, e api.Errno) {
	t.Helper()
	if r, got := rules.Find(g, name); r != want || got != e {
		t.Errorf("Find(%.40q): %d, %v, want %d, %v", name, r, got, want, e)
	}
}

func called(t *testing.T, g api.Grammar, r int, want ...int) {
	t.Helper()
	if l, e := rules.Calls(g, r); !slices.Equal(l, want) || e != api.OK {
		t.Errorf("Calls(%v, %d): %v, %v, want %v", g, r, l, e, want)
	}
}

func reached(t *testing.T, g api.Grammar, r int, want ...int) {
	t.Helper()
	if l, e := rules.Reach(g, r); !slices.Equal(l, want) || e != api.OK {
		t.Errorf("Reach(%v, %d): %v, %v, want %v", g, r, l, e, want)
	}
}

func example(t *testing.T) api.Grammar {
	t.Helper()
	return read(t, "s <- 'a' t / %e t <- 'b' u u <- t / 'c' v <- s")
}

// G2: the chapter's example.
func TestFindCallsReachOfTheExample(t *testing.T) {
	g := example(t)
	for r, name := range []string{"s", "t", "u", "v"} {
		found(t, g, name, r, api.OK)
	}
	found(t, g, "w", 0, api.ErrNone)
	called(t, g, 0, 1)
	called(t, g, 1, 2)
	called(t, g, 2, 1)
	called(t, g, 3, 0)
	reached(t, g, 0, 0, 1, 2)
	reached(t, g, 1, 1, 2)
	reached(t, g, 2, 1, 2)
	reached(t, g, 3, 0, 1, 2, 3)
}

// G2: each rule by its name, and names that no rule has.
func TestFind(t *testing.T) {
	for _, n := range []int{1, 2, 3, 50, 200} {
		g := grammar(manyRules(n)...)
		for r := range n {
			found(t, g, nameOf(r), r, api.OK)
		}
		for _, name := range []string{"", "r", "R0", "r00", "r0 ", " r0", "r0\x00", "_r0", nameOf(n), "r-1", "1", "1x", "a b", "\xff", times("r", 32), times("r", 33), times("r", 1<<16), times("r", 1<<16+1)} {
			found(t, g, name, 0, api.ErrNone)
		}
	}
	most := times("n", 32)
	g := grammar(anyRule(most[:31]), anyRule(most), anyRule(most[:31]+"m"))
	found(t, g, most, 1, api.OK)
	found(t, g, most[:31], 0, api.OK)
	found(t, g, most[:31]+"m", 2, api.OK)
	found(t, g, most+"n", 0, api.ErrNone)
	// A name that is called, or stands otherwise in a pattern, is no rule's for that.
	g = grammar(rule("s", call("t"), api.Node{Op: api.PGroup, Text: "u"}), rule("t", lit("v")))
	found(t, g, "t", 1, api.OK)
	found(t, g, "u", 0, api.ErrNone)
	found(t, g, "v", 0, api.ErrNone)
}

// G2: a pattern alone has the empty Name, and is found by it; no other grammar has a rule of that name.
func TestFindOfTheEmptyName(t *testing.T) {
	found(t, grammar(anyRule("")), "", 0, api.OK)
	found(t, grammar(anyRule("")), "a", 0, api.ErrNone)
	found(t, grammar(anyRule("")), ".", 0, api.ErrNone)
	found(t, grammar(anyRule("a")), "", 0, api.ErrNone)
	found(t, grammar(anyRule("a"), anyRule("b")), "", 0, api.ErrNone)
}

// G2: rising, each once, itself too, wherever the calls stand in the pattern.
func TestCalls(t *testing.T) {
	called(t, grammar(anyRule("")), 0)
	called(t, grammar(anyRule("s")), 0)
	called(t, grammar(rule("s", call("s"))), 0, 0)
	called(t, grammar(rule("s", call("s"), call("s"), op(api.PSeq))), 0, 0)
	g := made([]int{3, 1, 2, 1, 3, 3}, []int{}, []int{2}, []int{3, 2, 1, 0})
	called(t, g, 0, 1, 2, 3)
	called(t, g, 1)
	called(t, g, 2, 2)
	called(t, g, 3, 0, 1, 2, 3)
	// Under each kind of node, deep in it.
	for kind := api.PStar; kind <= api.PPick; kind++ {
		if kind == api.PPlace {
			continue
		}
		g := grammar(rule("s", call("t"), op(kind), call("s"), op(kind), op(api.PSeq), op(kind)), rule("t", op(api.PAny)))
		called(t, g, 0, 0, 1)
		called(t, g, 1)
	}
	deep := grammar(rule("s", tower(59, op(api.PNot), call("t"))...), anyRule("u"), rule("t", call("u")))
	called(t, deep, 0, 2)
	reached(t, deep, 0, 0, 1, 2)
	// What has a rule's name, but is no call.
	g = grammar(rule("s", lit("t"), api.Node{Op: api.PGroup, Text: "t"}, api.Node{Op: api.PString, Text: "t"}), rule("t", lit("s")))
	called(t, g, 0)
	reached(t, g, 0, 0)
}

// G2: one that calls all, and all that call one.
func TestCallsOfMany(t *testing.T) {
	all := make([]int, 200)
	for i := range all {
		all[i] = 199 - i
	}
	calls := make([][]int, 200)
	for i := range calls {
		calls[i] = []int{150}
	}
	calls[7] = all
	g := made(calls...)
	want := slices.Sorted(slices.Values(all))
	called(t, g, 7, want...)
	reached(t, g, 7, want...)
	called(t, g, 8, 150)
	reached(t, g, 8, 8, 150)
	reached(t, g, 150, 150)
	reached(t, g, 199, 150, 199)
}

// G2: rows and rings, in rising order, in falling order, and out of order.
func TestReach(t *testing.T) {
	for _, n := range []int{1, 2, 3, 10, 200} {
		all := newScramble().order(n)
		rising := slices.Sorted(slices.Values(all))
		row, back, ring, mixed := make([][]int, n), make([][]int, n), make([][]int, n), make([][]int, n)
		for i := range n {
			if i+1 < n {
				row[i] = []int{i + 1}
				back[i+1] = []int{i}
			}
			ring[i] = []int{(i + 1) % n}
			mixed[all[i]] = []int{all[(i+1)%n]}
		}
		for r := range n {
			reached(t, made(row...), r, rising[r:]...)
			reached(t, made(back...), r, rising[:r+1]...)
			reached(t, made(ring...), r, rising...)
			reached(t, made(mixed...), r, rising...)
		}
	}
	// A ring that calls a ring that calls a rule; rules beside them.
	g := made([]int{1}, []int{2}, []int{0, 4}, []int{0}, []int{5}, []int{4, 6}, []int{}, []int{7}, []int{3, 7})
	reached(t, g, 0, 0, 1, 2, 4, 5, 6)
	reached(t, g, 2, 0, 1, 2, 4, 5, 6)
	reached(t, g, 3, 0, 1, 2, 3, 4, 5, 6)
	reached(t, g, 4, 4, 5, 6)
	reached(t, g, 6, 6)
	reached(t, g, 7, 7)
	reached(t, g, 8, 0, 1, 2, 3, 4, 5, 6, 7, 8)
}

// G2: of each rule of right grammars of all sorts.
func TestCallsAndReachAsModel(t *testing.T) {
	for _, g := range someGrammars() {
		calls := callSquare(g)
		come := comeSquare(calls)
		for r, x := range g.Rules {
			if len(g.Rules) > 20 && r%17 > 0 {
				continue
			}
			found(t, g, x.Name, r, api.OK)
			called(t, g, r, numbersOf(calls[r])...)
			reached(t, g, r, wantedReach(come, r)...)
		}
		if t.Failed() {
			t.FailNow()
		}
	}
}
