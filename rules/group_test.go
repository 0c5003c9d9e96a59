package rules_test

import (
	"slices"
	"testing"

	"harrow/api"
	"harrow/rules"
)

func grouped(t *testing.T, g api.Grammar, want ...[]int) {
	t.Helper()
	if l, e := rules.Groups(g); !slices.EqualFunc(l, want, slices.Equal) || e != api.OK {
		t.Errorf("Groups(%v): %v, %v, want %v", g, l, e, want)
	}
}

func again(t *testing.T, g api.Grammar, want ...bool) {
	t.Helper()
	if l, e := rules.Again(g); !slices.Equal(l, want) || e != api.OK {
		t.Errorf("Again(%v): %v, %v, want %v", g, l, e, want)
	}
}

// G3: the chapter's example.
func TestGroupsOfTheExample(t *testing.T) {
	grouped(t, example(t), []int{1, 2}, []int{0}, []int{3})
	again(t, example(t), false, true, true, false)
}

// G3: one rule.
func TestGroupsOfOneRule(t *testing.T) {
	for _, name := range []string{"", "s"} {
		grouped(t, grammar(anyRule(name)), []int{0})
		again(t, grammar(anyRule(name)), false)
	}
	grouped(t, made([]int{0}), []int{0})
	again(t, made([]int{0}), true)
}

// G3: of the groups that are free the one with the least rule, and the next one is sought anew behind each.
func TestOrderOfGroups(t *testing.T) {
	// None calls any: all are free at once.
	grouped(t, made(nil, nil, nil), []int{0}, []int{1}, []int{2})
	// A row, from its end on, and one the other way.
	grouped(t, made([]int{1}, []int{2}, nil), []int{2}, []int{1}, []int{0})
	grouped(t, made(nil, []int{0}, []int{1}), []int{0}, []int{1}, []int{2})
	// 1 sets 2 free, ahead of 3, which was free already, and sets 0 free.
	grouped(t, made([]int{3}, nil, []int{1}, nil), []int{1}, []int{2}, []int{3}, []int{0})
	// 2 sets 0 free, ahead of 3 and 4, which were free already.
	grouped(t, made([]int{2}, []int{4}, nil, nil, nil), []int{2}, []int{0}, []int{3}, []int{4}, []int{1})
	// One that calls two is free behind both.
	grouped(t, made([]int{1, 3}, nil, nil, nil), []int{1}, []int{2}, []int{3}, []int{0})
	grouped(t, made([]int{3, 1}, nil, []int{1}, []int{2}), []int{1}, []int{2}, []int{3}, []int{0})
	// Calls of itself keep none from being free.
	grouped(t, made([]int{0, 2}, []int{1}, []int{2}), []int{1}, []int{2}, []int{0})
}

// G3: rings of two, three and more; the one with the least rule of those that are free comes first, though its other rules come late.
func TestOrderOfRings(t *testing.T) {
	grouped(t, made([]int{1}, []int{0}), []int{0, 1})
	again(t, made([]int{1}, []int{0}), true, true)
	grouped(t, made([]int{2}, []int{0}, []int{1}), []int{0, 1, 2})
	again(t, made([]int{2}, []int{0}, []int{1}), true, true, true)
	grouped(t, made([]int{5}, []int{2}, []int{1}, nil, nil, []int{0}), []int{0, 5}, []int{1, 2}, []int{3}, []int{4})
	// The ring (1, 3) sets the ring (0, 4) free, which goes ahead of 2.
	g := made([]int{4}, []int{3}, nil, []int{1}, []int{0, 1})
	grouped(t, g, []int{1, 3}, []int{0, 4}, []int{2})
	again(t, g, true, true, false, true, true)
	// A ring is not free, while one of its last rules calls what is not told.
	g = made([]int{1}, []int{3, 2}, nil, []int{0, 4}, nil)
	grouped(t, g, []int{2}, []int{4}, []int{0, 1, 3})
	again(t, g, true, true, false, true, false)
	// Two rings that share a rule are one; rings that call rings.
	grouped(t, made([]int{1}, []int{0, 2}, []int{1}, []int{2}), []int{0, 1, 2}, []int{3})
	g = made([]int{1}, []int{2}, []int{0, 4}, []int{0}, []int{5}, []int{4, 6}, nil, []int{7}, []int{3, 7})
	grouped(t, g, []int{6}, []int{4, 5}, []int{0, 1, 2}, []int{3}, []int{7}, []int{8})
	again(t, g, true, true, true, false, true, true, false, true, false)
}

// G3: as many rules as there may be, in one row, in one ring, in rings of two.
func TestGroupsOfManyRules(t *testing.T) {
	row, ring, pairs := make([][]int, 200), make([][]int, 200), make([][]int, 200)
	var falling, pairsInOrder [][]int
	all := make([]int, 200)
	for i := range 200 {
		all[i] = i
		ring[i] = []int{(i + 77) % 200}
		pairs[i] = []int{199 - i}
		falling = append(falling, []int{199 - i})
		if i < 199 {
			row[i] = []int{i + 1}
		}
		if i < 100 {
			pairsInOrder = append(pairsInOrder, []int{i, 199 - i})
		}
	}
	grouped(t, made(row...), falling...)
	again(t, made(row...), make([]bool, 200)...)
	for _, g := range []api.Grammar{made(ring...), made(pairs...)} {
		again(t, g, slices.Repeat([]bool{true}, 200)...)
	}
	grouped(t, made(ring...), all)
	grouped(t, made(pairs...), pairsInOrder...)
}

// G3: a rule that calls itself, one that comes to itself through others, one that does not, though it comes to such ones.
func TestAgain(t *testing.T) {
	again(t, made([]int{0, 1}, nil), true, false)
	again(t, made([]int{1}, []int{1}), false, true)
	again(t, made([]int{1}, []int{2}, []int{3}, []int{1}, []int{0, 4, 1}), false, true, true, true, true)
	again(t, made([]int{1, 2}, []int{3}, []int{3}, nil), false, false, false, false)
	// What is no call of itself, but has its name.
	again(t, grammar(rule("s", lit("s"), api.Node{Op: api.PGroup, Text: "s"})), false)
}

// G3: right grammars of all sorts, against the words themselves.
func TestGroupsAsModel(t *testing.T) {
	for _, g := range someGrammars() {
		calls := callSquare(g)
		come := comeSquare(calls)
		grouped(t, g, wantedGroups(calls, come)...)
		again(t, g, wantedAgain(come)...)
		if t.Failed() {
			t.FailNow()
		}
	}
}

// shuffled is a grammar with its rules in another order: the k-th one is the order[k]-th one of the old.
func shuffled(g api.Grammar, order []int) api.Grammar {
	var h api.Grammar
	for _, r := range order {
		h.Rules = append(h.Rules, g.Rules[r])
	}
	return h
}

// G2, G3: the same rules in other orders call the same, and are in the same groups; only the groups' order may be another one.
func TestOtherOrders(t *testing.T) {
	x := newScramble()
	for i := range 400 {
		g := x.grammar(1+i%12, 1+i%7)
		order := x.order(len(g.Rules))
		h := shuffled(g, order)
		old, _ := rules.Again(g)
		var wantAgain []bool
		for r, was := range order {
			found(t, h, g.Rules[was].Name, r, api.OK)
			calls, _ := rules.Calls(g, was)
			called(t, h, r, moved(calls, order)...)
			reach, _ := rules.Reach(g, was)
			reached(t, h, r, moved(reach, order)...)
			wantAgain = append(wantAgain, old[was])
		}
		again(t, h, wantAgain...)
		groups, _ := rules.Groups(g)
		var want [][]int
		for _, group := range groups {
			want = append(want, moved(group, order))
		}
		got, _ := rules.Groups(h)
		slices.SortFunc(want, slices.Compare)
		slices.SortFunc(got, slices.Compare)
		if !slices.EqualFunc(got, want, slices.Equal) {
			t.Errorf("Groups(%v): %v, want %v in some order", h, got, want)
		}
	}
}

// moved is where rules stand in another order, rising.
func moved(l, order []int) []int {
	var at []int
	for _, r := range l {
		at = append(at, slices.Index(order, r))
	}
	slices.Sort(at)
	return at
}
