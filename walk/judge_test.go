package walk_test

import (
	"math"
	"slices"
	"testing"

	"harrow/api"
	"harrow/tree"
	"harrow/walk"
)

// j is a judgement of the first rule.
func j(node, at, end int) api.Judgement { return api.Judgement{Node: node, At: at, End: end} }

// of is a judgement of another rule.
func of(r, node, at, end int) api.Judgement {
	return api.Judgement{Rule: r, Node: node, At: at, End: end}
}

// K3: the judgements of a walk, told by hand, in the order in which the parts ended.
func TestDerive(t *testing.T) {
	for _, x := range []struct {
		text, subject string
		at            int
		want          []api.Judgement
	}{
		{"!'a'", "b", 0, []api.Judgement{j(0, 0, -1), j(1, 0, 0)}},
		{"!'a'", "a", 0, []api.Judgement{j(0, 0, 1), j(1, 0, -1)}},
		{"&'a'", "ba", 1, []api.Judgement{j(0, 1, 2), j(1, 1, 1)}},
		{"&'a'", "ba", 0, []api.Judgement{j(0, 0, -1), j(1, 0, -1)}},
		{"%e", "", 0, []api.Judgement{j(0, 0, 0)}},
		{"%f", "a", 1, []api.Judgement{j(0, 1, -1)}},
		{"{}", "a", 1, []api.Judgement{j(0, 1, 1)}},
		{"'a' 'b'", "ab", 0, []api.Judgement{j(0, 0, 1), j(1, 1, 2), j(2, 0, 2)}},
		{"'a' 'b'", "aa", 0, []api.Judgement{j(0, 0, 1), j(1, 1, -1), j(2, 0, -1)}},
		{"'a' 'b'", "b", 0, []api.Judgement{j(0, 0, -1), j(2, 0, -1)}},
		{"'a' / 'b'", "a", 0, []api.Judgement{j(0, 0, 1), j(2, 0, 1)}},
		{"'a' / 'b'", "b", 0, []api.Judgement{j(0, 0, -1), j(1, 0, 1), j(2, 0, 1)}},
		{"'a' / 'b'", "c", 0, []api.Judgement{j(0, 0, -1), j(1, 0, -1), j(2, 0, -1)}},
		{"'a'*", "aab", 0, []api.Judgement{j(0, 0, 1), j(0, 1, 2), j(0, 2, -1), j(1, 0, 2)}},
		{"'a'*", "b", 0, []api.Judgement{j(0, 0, -1), j(1, 0, 0)}},
		{"'a'+", "ab", 0, []api.Judgement{j(0, 0, 1), j(0, 1, -1), j(1, 0, 1)}},
		{"'a'+", "b", 0, []api.Judgement{j(0, 0, -1), j(1, 0, -1)}},
		{"'a'?", "a", 0, []api.Judgement{j(0, 0, 1), j(1, 0, 1)}},
		{"'a'?", "b", 0, []api.Judgement{j(0, 0, -1), j(1, 0, 0)}},
		{"'a'^0", "a", 0, []api.Judgement{j(1, 0, 0)}},
		{"'a'^2", "aa", 0, []api.Judgement{j(0, 0, 1), j(0, 1, 2), j(1, 0, 2)}},
		{"'a'^2", "ab", 0, []api.Judgement{j(0, 0, 1), j(0, 1, -1), j(1, 0, -1)}},
		{"%e^2", "a", 0, []api.Judgement{j(0, 0, 0), j(0, 0, 0), j(1, 0, 0)}},
		{"'a'^+0", "a", 0, []api.Judgement{j(0, 0, 1), j(0, 1, -1), j(1, 0, 1)}},
		{"'a'^+2", "aaa", 0, []api.Judgement{j(0, 0, 1), j(0, 1, 2), j(0, 2, 3), j(0, 3, -1), j(1, 0, 3)}},
		{"'a'^+2", "ab", 0, []api.Judgement{j(0, 0, 1), j(0, 1, -1), j(1, 0, -1)}},
		{"'a'^-0", "a", 0, []api.Judgement{j(1, 0, 0)}},
		{"'a'^-2", "aaa", 0, []api.Judgement{j(0, 0, 1), j(0, 1, 2), j(1, 0, 2)}},
		{"'a'^-2", "ab", 0, []api.Judgement{j(0, 0, 1), j(0, 1, -1), j(1, 0, 1)}},
		{"{'a'}", "a", 0, []api.Judgement{j(0, 0, 1), j(1, 0, 1)}},
		{"{:k:'a':} -> 1", "b", 0, []api.Judgement{j(0, 0, -1), j(1, 0, -1), j(2, 0, -1)}},
		{"s <- t 'b' t <- 'a'", "ab", 0, []api.Judgement{of(1, 0, 0, 1), j(0, 0, 1), j(1, 1, 2), j(2, 0, 2)}},
		{"s <- 'a' s / %e", "a", 0, []api.Judgement{j(0, 0, 1), j(0, 1, -1), j(2, 1, -1), j(3, 1, 1), j(4, 1, 1), j(1, 1, 1), j(2, 0, 1), j(4, 0, 1)}},
		{"s <- !t 'b' t <- 'a' u u <- 'c'", "b", 0, []api.Judgement{of(1, 0, 0, -1), of(1, 2, 0, -1), j(0, 0, -1), j(1, 0, 0), j(2, 0, 1), j(3, 0, 1)}},
	} {
		g := read(t, x.text)
		for _, most := range []int{len(x.want), len(x.want) + 1, api.MaxItems} {
			if l, e := walk.Derive(g, 0, x.subject, x.at, most); !slices.Equal(l, x.want) || e != api.OK {
				t.Errorf("Derive(%s, %q, %d): %v, %v, want %v", x.text, x.subject, x.at, l, e, x.want)
			}
		}
		for most := range len(x.want) {
			refusesToDerive(t, g, 0, x.subject, x.at, most, api.ErrTired)
		}
		refusesToDerive(t, g, 0, x.subject, x.at, api.MaxItems+1, api.ErrRange)
		holds(t, g, x.subject, x.want)
	}
}

// K3: as many judgements as may be told, and one more.
func TestMostJudgements(t *testing.T) {
	g := read(t, "s <- t t <- 'a'*")
	s := times("a", api.MaxItems-3)
	l, e := walk.Derive(g, 0, s, 0, api.MaxItems)
	if len(l) != api.MaxItems || e != api.OK || l[0] != of(1, 0, 0, 1) || l[len(l)-2] != of(1, 1, 0, len(s)) || l[len(l)-1] != j(0, 0, len(s)) {
		t.Error(len(l), e)
	}
	holds(t, g, s, l)
	refusesToDerive(t, g, 0, s, 0, api.MaxItems-1, api.ErrTired)
	refusesToDerive(t, g, 0, s+"a", 0, api.MaxItems, api.ErrTired)
	// K4: as many as may be handed in, and one more: of one that does not hold, too.
	for _, last := range []api.Judgement{l[0], of(9, 9, 9, 9)} {
		refusesToHold(t, g, s, append(slices.Clone(l), last), api.ErrLong)
	}
	bad := slices.Clone(l)
	bad[len(bad)-1].End--
	holdsUpTo(t, g, s, bad, len(bad)-1)
	bad[0].At = 1
	holdsUpTo(t, g, s, bad, 0)
}

func holds(t *testing.T, g api.Grammar, s string, l []api.Judgement) {
	t.Helper()
	if is, at, e := walk.Holds(g, s, l); !is || at != 0 || e != api.OK {
		t.Errorf("Holds(%s, %q, %v): %v, %d, %v", text(g), s[:min(len(s), 20)], l[:min(len(l), 20)], is, at, e)
	}
}

func holdsUpTo(t *testing.T, g api.Grammar, s string, l []api.Judgement, first int) {
	t.Helper()
	if is, at, e := walk.Holds(g, s, l); is || at != first || e != api.OK {
		t.Errorf("Holds(%s, %q, %v): %v, %d, %v, want false at %d", text(g), s[:min(len(s), 20)], l[:min(len(l), 20)], is, at, e, first)
	}
}

// asTold holds a list against what is told of it: it holds up to the judgement of that number (-1: all of it).
func asTold(t *testing.T, g api.Grammar, s string, l []api.Judgement, first int) {
	t.Helper()
	if first < 0 {
		holds(t, g, s, l)
	} else {
		holdsUpTo(t, g, s, l, first)
	}
}

// K4: lists told by hand: what follows, and what does not, from what is told of the parts.
func TestHolds(t *testing.T) {
	for _, x := range []struct {
		text, subject string
		l             []api.Judgement
		first         int
	}{
		{"'a'", "ab", nil, -1},
		{"'a'", "ab", []api.Judgement{}, -1},
		{"'a'", "ab", []api.Judgement{j(0, 0, 1)}, -1},
		{"'a'", "ab", []api.Judgement{j(0, 1, -1), j(0, 0, 1), j(0, 2, -1)}, -1},
		{"'a'", "ab", []api.Judgement{j(0, 0, -1)}, 0},
		{"'a'", "ab", []api.Judgement{j(0, 0, 0)}, 0},
		{"'a'", "ab", []api.Judgement{j(0, 0, 2)}, 0},
		{"'a'", "ab", []api.Judgement{j(0, 1, 2)}, 0},
		// Told twice, and once otherwise.
		{"'a'", "ab", []api.Judgement{j(0, 0, 1), j(0, 0, 1), j(0, 0, 1)}, -1},
		{"'a'", "ab", []api.Judgement{j(0, 0, 1), j(0, 0, 1), j(0, 0, -1)}, 2},
		{"!'a'", "b", []api.Judgement{j(0, 0, -1), j(1, 0, 0), j(0, 0, -1), j(1, 0, 0)}, -1},
		// The numbers of a rule, of a node, and a place, that are none.
		{"'a'", "ab", []api.Judgement{of(-1, 0, 0, 1)}, 0},
		{"'a'", "ab", []api.Judgement{of(1, 0, 0, 1)}, 0},
		{"'a'", "ab", []api.Judgement{of(math.MaxInt, 0, 0, 1)}, 0},
		{"'a'", "ab", []api.Judgement{of(math.MinInt, 0, 0, 1)}, 0},
		{"'a'", "ab", []api.Judgement{j(-1, 0, 1)}, 0},
		{"'a'", "ab", []api.Judgement{j(1, 0, 1)}, 0},
		{"'a'", "ab", []api.Judgement{j(math.MaxInt, 0, 1)}, 0},
		{"'a'", "ab", []api.Judgement{j(math.MinInt, 0, 1)}, 0},
		{"'a'", "ab", []api.Judgement{j(0, 0, 1), j(0, -1, -1)}, 1},
		{"'a'", "ab", []api.Judgement{j(0, 0, 1), j(0, 3, -1)}, 1},
		{"'a'", "ab", []api.Judgement{j(0, math.MaxInt, -1)}, 0},
		{"'a'", "ab", []api.Judgement{j(0, math.MinInt, -1)}, 0},
		{"s <- 'a' t <- 'a' 'b'", "ab", []api.Judgement{j(0, 0, 1), of(1, 0, 0, 1), of(1, 1, 1, 2), of(1, 2, 0, 2)}, -1},
		{"s <- 'a' t <- 'a' 'b'", "ab", []api.Judgement{j(0, 0, 1), j(1, 1, 2)}, 1},
		{"s <- 'a' t <- 'a' 'b'", "ab", []api.Judgement{of(1, 3, 0, 1)}, 0},
		{"s <- 'a' 'b' t <- 'a'", "ab", []api.Judgement{of(1, -1, 0, 2)}, 0},
		// Ends below -1, and behind the subject.
		{"'a'", "ab", []api.Judgement{j(0, 1, -2)}, 0},
		{"'a'", "ab", []api.Judgement{j(0, 1, math.MinInt)}, 0},
		{"'a'", "ab", []api.Judgement{j(0, 0, 3)}, 0},
		{"'a'", "ab", []api.Judgement{j(0, 0, math.MaxInt)}, 0},
		{"'a'*", "aa", []api.Judgement{j(0, 0, 1), j(0, 1, 2), j(0, 2, 3), j(1, 0, 3)}, 2},
		// A call: of the called rule's last node, at the same place.
		{"s <- t t <- 'a' 'b'", "ab", []api.Judgement{of(1, 0, 0, 1), of(1, 1, 1, 2), of(1, 2, 0, 2), j(0, 0, 2)}, -1},
		{"s <- t t <- 'a' 'b'", "ab", []api.Judgement{of(1, 0, 0, 1), of(1, 1, 1, 2), j(0, 0, 2)}, 2},
		{"s <- t t <- 'a' 'b'", "ab", []api.Judgement{of(1, 0, 0, 1), j(0, 0, 1)}, 1},
		{"s <- t t <- 'a'", "aa", []api.Judgement{of(1, 0, 1, 2), j(0, 0, 1)}, 1},
		{"s <- t t <- 'a'", "aa", []api.Judgement{of(1, 0, 1, 2), j(0, 1, -1)}, 1},
		{"s <- t t <- 'a'", "aa", []api.Judgement{j(0, 0, 1), of(1, 0, 0, 1)}, 0},
		{"s <- 'a' t <- s", "aa", []api.Judgement{j(0, 0, 1), of(1, 0, 0, 1)}, -1},
		// A sequence: both parts, or the first one that fails, or the second one that does.
		{"'a' 'b'", "ab", []api.Judgement{j(0, 0, 1), j(1, 1, 2), j(2, 0, 2)}, -1},
		{"'a' 'b'", "ab", []api.Judgement{j(1, 1, 2), j(0, 0, 1), j(2, 0, 2)}, -1},
		{"'a' 'b'", "ab", []api.Judgement{j(0, 0, 1), j(2, 0, 2)}, 1},
		{"'a' 'b'", "ab", []api.Judgement{j(1, 1, 2), j(2, 0, 2)}, 1},
		{"'a' 'b'", "ab", []api.Judgement{j(0, 0, 1), j(1, 0, -1), j(2, 0, -1)}, 2},
		{"'a' 'b'", "ab", []api.Judgement{j(0, 0, 1), j(1, 1, 2), j(2, 0, 1)}, 2},
		{"'a' 'b'", "ab", []api.Judgement{j(0, 0, 1), j(1, 1, 2), j(2, 0, -1)}, 2},
		{"'a' 'b'", "aa", []api.Judgement{j(0, 0, 1), j(1, 1, -1), j(2, 0, -1)}, -1},
		{"'a' 'b'", "ba", []api.Judgement{j(0, 0, -1), j(2, 0, -1)}, -1},
		{"'a' 'b'", "ba", []api.Judgement{j(2, 0, -1), j(0, 0, -1)}, 0},
		// A choice: the first part, or it failing and the second one.
		{"'a' / 'b'", "ab", []api.Judgement{j(0, 0, 1), j(2, 0, 1)}, -1},
		{"'a' / 'b'", "ab", []api.Judgement{j(0, 1, -1), j(1, 1, 2), j(2, 1, 2)}, -1},
		{"'a' / 'b'", "ab", []api.Judgement{j(1, 1, 2), j(2, 1, 2)}, 1},
		{"'a' / 'b'", "ab", []api.Judgement{j(0, 1, -1), j(2, 1, 2)}, 1},
		{"'a' / 'b'", "ab", []api.Judgement{j(0, 1, -1), j(2, 1, -1)}, 1},
		{"'a' / 'b'", "ab", []api.Judgement{j(0, 2, -1), j(1, 2, -1), j(2, 2, -1)}, -1},
		{"'a' / 'ab'", "ab", []api.Judgement{j(0, 0, 1), j(1, 0, 2), j(2, 0, 2)}, 2},
		// Predicates.
		{"&'a'", "ab", []api.Judgement{j(0, 0, 1), j(1, 0, 0)}, -1},
		{"&'a'", "ab", []api.Judgement{j(0, 0, 1), j(1, 0, 1)}, 1},
		{"&'a'", "ab", []api.Judgement{j(0, 1, -1), j(1, 1, -1)}, -1},
		{"&'a'", "ab", []api.Judgement{j(0, 1, -1), j(1, 1, 1)}, 1},
		{"&'a'", "ab", []api.Judgement{j(1, 1, -1)}, 0},
		{"!'a'", "ab", []api.Judgement{j(0, 0, 1), j(1, 0, -1)}, -1},
		{"!'a'", "ab", []api.Judgement{j(0, 0, 1), j(1, 0, 0)}, 1},
		{"!'a'", "ab", []api.Judgement{j(0, 1, -1), j(1, 1, 1)}, -1},
		{"!'a'", "ab", []api.Judgement{j(0, 1, -1), j(1, 1, -1)}, 1},
		{"!'a'", "ab", []api.Judgement{j(1, 1, 1)}, 0},
		// An option.
		{"'a'?", "ab", []api.Judgement{j(0, 0, 1), j(1, 0, 1)}, -1},
		{"'a'?", "ab", []api.Judgement{j(0, 1, -1), j(1, 1, 1)}, -1},
		{"'a'?", "ab", []api.Judgement{j(0, 0, 1), j(1, 0, 0)}, 1},
		{"'a'?", "ab", []api.Judgement{j(1, 1, 1)}, 0},
		{"'a'?", "ab", []api.Judgement{j(0, 1, -1), j(1, 1, -1)}, 1},
		// Repetitions: each time that matched, in whatever order they are told, and the one that failed.
		{"'a'*", "aab", []api.Judgement{j(0, 2, -1), j(0, 1, 2), j(0, 0, 1), j(1, 0, 2), j(1, 1, 2), j(1, 2, 2)}, -1},
		{"'a'*", "aab", []api.Judgement{j(0, 0, 1), j(0, 1, 2), j(1, 0, 2)}, 2},
		{"'a'*", "aab", []api.Judgement{j(0, 0, 1), j(0, 2, -1), j(1, 0, 2)}, 2},
		{"'a'*", "aab", []api.Judgement{j(0, 1, 2), j(0, 2, -1), j(1, 0, 2)}, 2},
		{"'a'*", "aab", []api.Judgement{j(0, 0, 1), j(0, 1, 2), j(0, 2, -1), j(1, 0, 1)}, 3},
		{"'a'*", "aab", []api.Judgement{j(0, 0, 1), j(0, 1, 2), j(0, 2, -1), j(1, 0, -1)}, 3},
		{"'a'*", "b", []api.Judgement{j(1, 0, 0)}, 0},
		{"'a'+", "ab", []api.Judgement{j(0, 0, 1), j(0, 1, -1), j(1, 0, 1), j(1, 1, -1)}, -1},
		{"'a'+", "ab", []api.Judgement{j(0, 1, -1), j(1, 1, 1)}, 1},
		{"'a'+", "ab", []api.Judgement{j(0, 0, 1), j(1, 0, 1)}, 1},
		{"'a'^+2", "aab", []api.Judgement{j(0, 0, 1), j(0, 1, 2), j(0, 2, -1), j(1, 0, 2), j(1, 1, -1), j(1, 2, -1)}, -1},
		{"'a'^+2", "aab", []api.Judgement{j(0, 0, 1), j(0, 1, 2), j(1, 0, 2)}, 2},
		{"'a'^+2", "aab", []api.Judgement{j(0, 1, 2), j(0, 2, -1), j(1, 1, 2)}, 2},
		{"'a'^+0", "b", []api.Judgement{j(0, 0, -1), j(1, 0, 0)}, -1},
		{"'a'^+0", "b", []api.Judgement{j(1, 0, 0)}, 0},
		{"'a'^+0", "b", []api.Judgement{j(0, 0, -1), j(1, 0, -1)}, 1},
		// Of PTimes and PMost none is asked for behind N; with N 0 none at all.
		{"'a'^2", "aaa", []api.Judgement{j(0, 0, 1), j(0, 1, 2), j(1, 0, 2)}, -1},
		{"'a'^2", "aaa", []api.Judgement{j(0, 0, 1), j(0, 1, 2), j(0, 2, 3), j(0, 3, -1), j(1, 0, 2), j(1, 1, 3), j(1, 2, -1), j(1, 3, -1)}, -1},
		{"'a'^2", "aaa", []api.Judgement{j(0, 0, 1), j(1, 0, 2)}, 1},
		{"'a'^2", "aaa", []api.Judgement{j(0, 0, 1), j(0, 1, 2), j(0, 2, 3), j(1, 0, 3)}, 3},
		{"'a'^0", "aaa", []api.Judgement{j(1, 0, 0), j(1, 3, 3)}, -1},
		{"'a'^0", "aaa", []api.Judgement{j(0, 0, 1), j(1, 0, 1)}, 1},
		{"'a'^0", "aaa", []api.Judgement{j(1, 0, -1)}, 0},
		{"'a'^-2", "aaa", []api.Judgement{j(0, 0, 1), j(0, 1, 2), j(1, 0, 2)}, -1},
		{"'a'^-2", "aaa", []api.Judgement{j(0, 2, 3), j(0, 3, -1), j(1, 2, 3), j(1, 3, 3)}, -1},
		{"'a'^-2", "aaa", []api.Judgement{j(0, 2, 3), j(1, 2, 3)}, 1},
		{"'a'^-2", "aaa", []api.Judgement{j(0, 3, -1), j(1, 3, -1)}, 1},
		{"'a'^-2", "aaa", []api.Judgement{j(0, 0, 1), j(0, 1, 2), j(0, 2, 3), j(1, 0, 3)}, 3},
		{"'a'^-0", "aaa", []api.Judgement{j(1, 0, 0), j(1, 3, 3)}, -1},
		{"'a'^-0", "aaa", []api.Judgement{j(0, 0, 1), j(1, 0, 1)}, 1},
		{"%e^50", "a", []api.Judgement{j(0, 1, 1), j(1, 1, 1)}, -1},
		{"%e^-50", "a", []api.Judgement{j(0, 1, 1), j(1, 1, 1), j(1, 0, 0)}, 2},
		// Captures are what their parts are.
		{"{'a'}", "ab", []api.Judgement{j(0, 0, 1), j(1, 0, 1), j(0, 1, -1), j(1, 1, -1)}, -1},
		{"{'a'}", "ab", []api.Judgement{j(1, 0, 1)}, 0},
		{"{'a'}", "ab", []api.Judgement{j(0, 0, 1), j(1, 0, 0)}, 1},
		{"{}", "ab", []api.Judgement{j(0, 0, 0), j(0, 2, 2), j(0, 1, 1)}, -1},
		{"{}", "ab", []api.Judgement{j(0, 0, 1)}, 0},
		{"{}", "ab", []api.Judgement{j(0, 0, -1)}, 0},
		{"%e", "ab", []api.Judgement{j(0, 2, 2), j(0, 1, 2)}, 1},
		{"%f", "ab", []api.Judgement{j(0, 2, -1), j(0, 1, 1)}, 1},
		{".", "ab", []api.Judgement{j(0, 1, 2), j(0, 2, -1), j(0, 0, -1)}, 2},
		{"[a]", "ab", []api.Judgement{j(0, 0, 1), j(0, 1, -1), j(0, 2, -1), j(0, 1, 2)}, 3},
		// What stands ahead of what it follows from.
		{"!!'a'", "a", []api.Judgement{j(0, 0, 1), j(1, 0, -1), j(2, 0, 0)}, -1},
		{"!!'a'", "a", []api.Judgement{j(0, 0, 1), j(2, 0, 0), j(1, 0, -1)}, 1},
		{"s <- 'a' s / %e", "a", []api.Judgement{j(4, 0, 1)}, 0},
		{"s <- 'a' s / %e", "a", []api.Judgement{j(0, 0, 1), j(1, 1, 1)}, 1},
	} {
		asTold(t, read(t, x.text), x.subject, x.l, x.first)
	}
}

// A judge says what follows, by the chapter's words, of whatever was told ahead: of each part that was told to go somewhere it tries all that was told.
type judge struct {
	g       api.Grammar
	subject string
	ahead   []api.Judgement
}

// toldEnds are all ends that were told of a part at a place.
func (x judge) toldEnds(r, node, at int) []int {
	var l []int
	for _, y := range x.ahead {
		if y.Rule == r && y.Node == node && y.At == at && !slices.Contains(l, y.End) {
			l = append(l, y.End)
		}
	}
	return l
}

func (x judge) isTold(r, node, at, end int) bool {
	return slices.Contains(x.toldEnds(r, node, at), end)
}

func (x judge) follows(y api.Judgement) bool {
	if y.Rule < 0 || y.Rule >= len(x.g.Rules) || y.Node < 0 || y.Node >= len(x.g.Rules[y.Rule].Body) || y.At < 0 || y.At > len(x.subject) {
		return false
	}
	part, _ := tree.Part(x.g.Rules[y.Rule].Body, y.Node)
	n, _, other := cutParts(part)
	first, second := y.Node-1-len(other), y.Node-1
	is := func(node, at, end int) bool { return x.isTold(y.Rule, node, at, end) }
	goes := func(at int) (ends []int) {
		for _, end := range x.toldEnds(y.Rule, first, at) {
			if end >= 0 {
				ends = append(ends, end)
			}
		}
		return ends
	}
	switch n.Op {
	case api.PEmpty, api.PFail, api.PAny, api.PText, api.PSet:
		return takes(n, x.subject, y.At) == y.End
	case api.PPlace:
		return y.End == y.At
	case api.PCall:
		r := slices.IndexFunc(x.g.Rules, func(z api.Rule) bool { return z.Name == n.Text })
		return x.isTold(r, len(x.g.Rules[r].Body)-1, y.At, y.End)
	case api.PSeq:
		bySecond := slices.ContainsFunc(goes(y.At), func(k int) bool { return is(second, k, y.End) })
		return bySecond || is(first, y.At, -1) && y.End == -1
	case api.PChoice:
		return is(first, y.At, y.End) && y.End != -1 || is(first, y.At, -1) && is(second, y.At, y.End)
	case api.PAnd:
		return len(goes(y.At)) > 0 && y.End == y.At || is(first, y.At, -1) && y.End == -1
	case api.PNot:
		return len(goes(y.At)) > 0 && y.End == -1 || is(first, y.At, -1) && y.End == y.At
	case api.POpt:
		return slices.Contains(goes(y.At), y.End) || is(first, y.At, -1) && y.End == y.At
	case api.PStar, api.PPlus, api.PTimes, api.PLeast, api.PMost:
		return repeats(n, y, goes, is, first, 0, y.At)
	}
	return is(first, y.At, y.End)
}

// repeats says whether some chain of what was told leads to the end of a repetition that has matched so many times and is at a place. It comes to an end, since all that was told ahead holds, and what is repeated takes a byte.
func repeats(n api.Node, y api.Judgement, goes func(int) []int, is func(node, at, end int) bool, part, times, at int) bool {
	if (n.Op == api.PTimes || n.Op == api.PMost) && times == n.N {
		return y.End == at
	}
	if is(part, at, -1) {
		isMissing := n.Op == api.PPlus && times < 1 || (n.Op == api.PTimes || n.Op == api.PLeast) && times < n.N
		if isMissing && y.End == -1 || !isMissing && y.End == at {
			return true
		}
	}
	return slices.ContainsFunc(goes(at), func(k int) bool { return repeats(n, y, goes, is, part, times+1, k) })
}

// firstWrong is the number of the first judgement of a list that does not follow from those ahead of it; -1: there is none.
func firstWrong(g api.Grammar, s string, l []api.Judgement) int {
	for i, y := range l {
		if !(judge{g, s, l[:i]}).follows(y) {
			return i
		}
	}
	return -1
}

// spoilt is a list with a few things changed in it.
func (x *scramble) spoilt(l []api.Judgement) []api.Judgement {
	l = slices.Clone(l)
	for range x.below(4) {
		if len(l) == 0 {
			break
		}
		at, other := x.below(len(l)), x.below(len(l))
		switch x.below(8) {
		case 0:
			l[at].End = []int{-2, -1, 0, l[at].At, l[at].At + 1, l[at].End - 1, l[at].End + 1}[x.below(7)]
		case 1:
			l[at].At += []int{-1, 1}[x.below(2)]
		case 2:
			l[at].Node += []int{-1, 1}[x.below(2)]
		case 3:
			l[at].Rule += []int{-1, 1}[x.below(2)]
		case 4:
			l[at], l[other] = l[other], l[at]
		case 5:
			l = slices.Insert(l, at, l[other])
		case 6, 7:
			l = slices.Delete(l, at, at+1)
		}
	}
	return l
}

// K4: lists of walks, as they are and spoilt, held against the judge.
func TestHoldsAsTheJudge(t *testing.T) {
	x := newScramble()
	right, wrong, late := 0, 0, 0
	for i := range 4000 {
		g := x.wellFormed(1+i%4, 1+i%10)
		s := x.subject(6)
		var l []api.Judgement
		for range 1 + x.below(3) {
			w, is := walkOf(g, x.below(len(g.Rules)), s, x.below(len(s)+1))
			if is && len(w.tries) < 60 {
				l = append(l, w.judgements()...)
			}
		}
		if i%5 == 0 {
			var mixed []api.Judgement
			for _, at := range x.order(len(l)) {
				mixed = append(mixed, l[at])
			}
			l = mixed
		}
		for k := range 8 {
			if k > 0 {
				l = x.spoilt(l)
			}
			first := firstWrong(g, s, l)
			asTold(t, g, s, l, first)
			if first < 0 {
				right++
			} else {
				wrong++
			}
			if first > 5 {
				late++
			}
		}
		if t.Failed() {
			break
		}
	}
	if min(right, wrong) < 5000 || late < 500 {
		t.Error("too little was tried:", right, wrong, late)
	}
}
