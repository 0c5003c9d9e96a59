package rules_test

import (
	"math"
	"slices"
	"strings"
	"testing"
	"unsafe"

	"harrow/api"
	"harrow/rules"
)

// A net is what the package itself tells of a right grammar.
type net struct {
	calls, reach, groups [][]int
	again                []bool
}

func netOf(t *testing.T, g api.Grammar) net {
	t.Helper()
	var n net
	for r := range g.Rules {
		calls, e := rules.Calls(g, r)
		reach, f := rules.Reach(g, r)
		if e != api.OK || f != api.OK {
			t.Fatal(g, r, e, f)
		}
		n.calls = append(n.calls, calls)
		n.reach = append(n.reach, reach)
	}
	var e, f api.Errno
	n.groups, e = rules.Groups(g)
	n.again, f = rules.Again(g)
	if e != api.OK || f != api.OK {
		t.Fatal(g, e, f)
	}
	return n
}

func smallGrammars() []api.Grammar {
	return slices.DeleteFunc(someGrammars(), func(g api.Grammar) bool { return len(g.Rules) > 50 })
}

// G5: what a rule of Reach calls is in it.
func TestReachIsClosed(t *testing.T) {
	for _, g := range smallGrammars() {
		n := netOf(t, g)
		for r, reach := range n.reach {
			if !slices.Contains(reach, r) {
				t.Fatalf("%v: Reach(%d) without itself: %v", g, r, reach)
			}
			for _, member := range reach {
				for _, c := range n.calls[member] {
					if !slices.Contains(reach, c) {
						t.Fatalf("%v: Reach(%d) is %v, and %d calls %d", g, r, reach, member, c)
					}
				}
			}
		}
	}
}

// G5: no rule of Reach could be left away: what is closed and has r has all of it.
func TestReachHasNoneTooMany(t *testing.T) {
	for _, g := range smallGrammars() {
		n := netOf(t, g)
		for r, reach := range n.reach {
			kept := []int{r}
			for at := 0; at < len(kept); at++ {
				for _, c := range n.calls[kept[at]] {
					if !slices.Contains(kept, c) {
						kept = append(kept, c)
					}
				}
			}
			if slices.Sort(kept); !slices.Equal(kept, reach) {
				t.Fatalf("%v: Reach(%d) is %v, but %v are closed", g, r, reach, kept)
			}
		}
	}
}

// G3, G5: each rule is in one group, each group rising; two are in one just if each is in Reach of the other.
func TestGroupsAreWhatComesBack(t *testing.T) {
	for _, g := range smallGrammars() {
		n := netOf(t, g)
		if l := slices.Concat(n.groups...); len(l) != len(g.Rules) || len(slices.Compact(slices.Sorted(slices.Values(l)))) != len(g.Rules) {
			t.Fatalf("%v: %v are not each rule once", g, n.groups)
		}
		of := make([]int, len(g.Rules))
		for at, group := range n.groups {
			if !slices.IsSorted(group) || len(group) == 0 {
				t.Fatalf("%v: the group %v does not rise", g, group)
			}
			for _, r := range group {
				of[r] = at
			}
		}
		for a := range g.Rules {
			for b := range g.Rules {
				both := slices.Contains(n.reach[a], b) && slices.Contains(n.reach[b], a)
				if both != (of[a] == of[b]) {
					t.Fatalf("%v: %d and %d, %v", g, a, b, n.groups)
				}
			}
			for _, c := range n.calls[a] {
				if of[c] > of[a] {
					t.Fatalf("%v: %d calls %d, whose group is told later: %v", g, a, c, n.groups)
				}
			}
		}
	}
}

// G5: a rule comes to itself just if its group has another rule, or it calls itself.
func TestAgainIsAGroup(t *testing.T) {
	for _, g := range smallGrammars() {
		n := netOf(t, g)
		if len(n.again) != len(g.Rules) {
			t.Fatalf("%v: %v", g, n.again)
		}
		for _, group := range n.groups {
			for _, r := range group {
				if want := len(group) > 1 || slices.Contains(n.calls[r], r); n.again[r] != want {
					t.Fatalf("%v: Again of %d: %v", g, r, n.again[r])
				}
			}
		}
	}
}

func sameNet(a, b net) bool {
	lists := func(x, y [][]int) bool { return slices.EqualFunc(x, y, slices.Equal) }
	return lists(a.calls, b.calls) && lists(a.reach, b.reach) && lists(a.groups, b.groups) && slices.Equal(a.again, b.again)
}

// G5: a renamed grammar is right and calls what it called; renamed back it is as it was.
func TestRenamedThereAndBack(t *testing.T) {
	for i, g := range smallGrammars() {
		if len(g.Rules) > 4 && i%5 > 0 {
			continue
		}
		n := netOf(t, g)
		for r, x := range g.Rules {
			h, e := rules.Rename(g, r, "fresh")
			if e != api.OK || !sameNet(n, netOf(t, h)) {
				t.Fatalf("%v renamed: %v, %v", g, h, e)
			}
			if rules.Same(g, h) {
				t.Fatalf("%v: Rename(%d) changed nothing", g, r)
			}
			found(t, h, "fresh", r, api.OK)
			found(t, h, x.Name, 0, api.ErrNone)
			back, e := rules.Rename(h, r, x.Name)
			if x.Name == "" {
				// No call gives a rule the empty name back.
				if len(back.Rules) != 0 || e != api.ErrText {
					t.Fatal(back, e)
				}
				continue
			}
			if e != api.OK || !rules.Same(back, g) || !sameGrammar(back, g) {
				t.Fatalf("%v renamed there and back: %v, %v", g, back, e)
			}
		}
	}
}

// roomy is a grammar whose lists have something else behind their lengths; the rest of its lists is answered beside it.
func roomy(g api.Grammar) (api.Grammar, []api.Rule) {
	var l []api.Rule
	for _, x := range g.Rules {
		whole := slices.Concat(x.Body, list(op(-1), call("spare"), lit("spare")))
		l = append(l, api.Rule{Name: x.Name, Body: whole[:len(x.Body)]})
	}
	n := len(l)
	l = append(l, rule("1"), rule("spare", op(-1)))
	return api.Grammar{Rules: l[:n]}, l
}

// all copies rules with all that lies in their lists' room.
func all(l []api.Rule) []api.Rule {
	var c []api.Rule
	for _, x := range l {
		c = append(c, api.Rule{Name: x.Name, Body: slices.Clone(x.Body[:cap(x.Body)])})
	}
	return c
}

// R4: what is handed in stays as it is, and what lies behind a list's length is neither read nor written.
func TestWhatIsHandedInStays(t *testing.T) {
	x := newScramble()
	for i := range 600 {
		g := x.grammar(1+i%8, 6)
		if i%3 == 0 {
			x.spoil(g)
		}
		given, room := roomy(g)
		before := all(room)
		checkAsModel(t, given)
		if at, e := rules.Check(given); e == api.OK {
			if !sameNet(netOf(t, given), netOf(t, cloned(g))) {
				t.Fatal("the room behind was read:", g, at)
			}
			for r := range g.Rules {
				want, _ := wantedRename(g, r, "fresh")
				renamed(t, given, r, "fresh", want)
				found(t, given, g.Rules[r].Name, r, api.OK)
			}
			found(t, given, "spare", 0, api.ErrNone)
		}
		if !rules.Same(given, g) || !rules.Same(g, given) {
			t.Fatal("Same read what lies behind")
		}
		if !sameGrammar(api.Grammar{Rules: all(room)}, api.Grammar{Rules: before}) {
			t.Fatal("what was handed in was changed:", g)
		}
	}
}

func spoilNumbers(l []int) {
	for i := range l[:cap(l)] {
		l[:cap(l)][i] = -1
	}
}

// R4: what is written into an answer, and behind it, changes no later answer, no other list of the same one, and nothing that was handed in.
func TestAnswersAreNewMemory(t *testing.T) {
	for i, g := range smallGrammars() {
		if i%4 > 0 {
			continue
		}
		kept := cloned(g)
		want := netOf(t, g)
		for r := range g.Rules {
			calls, _ := rules.Calls(g, r)
			reach, _ := rules.Reach(g, r)
			spoilNumbers(calls)
			if !slices.Equal(reach, want.reach[r]) {
				t.Fatal("Reach lies in Calls:", g)
			}
			spoilNumbers(reach)
		}
		flags, _ := rules.Again(g)
		for i := range flags[:cap(flags)] {
			flags[:cap(flags)][i] = !flags[:cap(flags)][i]
		}
		groups, _ := rules.Groups(g)
		for at := range groups {
			spoilNumbers(groups[at])
			if !slices.EqualFunc(groups[at+1:], want.groups[at+1:], slices.Equal) {
				t.Fatal("two groups lie in one another:", g)
			}
		}
		for at := range groups[:cap(groups)] {
			groups[:cap(groups)][at] = nil
		}
		if !sameNet(want, netOf(t, g)) || !sameGrammar(g, kept) {
			t.Fatal("an answer is not alone:", g)
		}
	}
}

func spoilGrammar(g api.Grammar) {
	for r := range g.Rules {
		body := g.Rules[r].Body[:cap(g.Rules[r].Body)]
		for at := range body {
			body[at] = lit("spoilt")
		}
	}
	for r := range g.Rules[:cap(g.Rules)] {
		g.Rules[:cap(g.Rules)][r] = rule("spoilt")
	}
}

// R4: a renamed grammar lies alone, rule by rule, whether the rule changed or not.
func TestRenamedIsNewMemory(t *testing.T) {
	for i, g := range smallGrammars() {
		if i%4 > 0 {
			continue
		}
		given, room := roomy(g)
		before := all(room)
		for r := range g.Rules {
			for _, name := range []string{"fresh", g.Rules[r].Name} {
				want, code := wantedRename(g, r, name)
				if code != api.OK {
					continue
				}
				first, _ := rules.Rename(given, r, name)
				second, _ := rules.Rename(given, r, name)
				for at := range first.Rules {
					body := first.Rules[at].Body
					for j := range body[:cap(body)] {
						body[:cap(body)][j] = lit("spoilt")
					}
					if !sameGrammar(grammar(first.Rules[at+1:]...), grammar(want.Rules[at+1:]...)) {
						t.Fatal("two patterns lie in one another:", g)
					}
				}
				spoilGrammar(first)
				if !sameGrammar(second, want) {
					t.Fatal("two answers lie in one another:", g)
				}
				spoilGrammar(second)
				third, e := rules.Rename(given, r, name)
				if !sameGrammar(third, want) || e != api.OK {
					t.Fatal("a later answer is another one:", g)
				}
			}
		}
		if !sameGrammar(api.Grammar{Rules: all(room)}, api.Grammar{Rules: before}) {
			t.Fatal("what was handed in was changed:", g)
		}
	}
}

func sharesText(a, b string) bool {
	return a != "" && b != "" && unsafe.StringData(a) == unsafe.StringData(b)
}

// R4: a renamed grammar keeps none of the texts that were handed in, the new name neither.
func TestRenamedKeepsNoText(t *testing.T) {
	name := strings.Clone("fresh")
	g := read(t, "a <- a 'text' b / {:g: b :} b <- ('a' -> 'x%1') a")
	texts := []string{name}
	for _, x := range g.Rules {
		texts = append(texts, x.Name)
		for _, n := range x.Body {
			texts = append(texts, n.Text)
		}
	}
	for r := range g.Rules {
		h, e := rules.Rename(g, r, name)
		if e != api.OK {
			t.Fatal(e)
		}
		for _, s := range texts {
			for _, x := range h.Rules {
				if sharesText(x.Name, s) {
					t.Errorf("the name %s is kept", s)
				}
				for _, n := range x.Body {
					if sharesText(n.Text, s) {
						t.Errorf("the text %s is kept", s)
					}
				}
			}
		}
	}
}

// R3: a list without an element may be nil or empty.
func TestNilAndEmpty(t *testing.T) {
	for _, p := range []api.Pattern{nil, {}} {
		checked(t, spot(0, 0), api.ErrParts, api.Rule{Name: "a", Body: p})
		checked(t, spot(1, 0), api.ErrParts, anyRule("b"), api.Rule{Name: "a", Body: p})
	}
	for _, l := range [][]api.Rule{nil, {}} {
		checked(t, spot(0, 0), api.ErrShape, l...)
		refusedByAll(t, api.Grammar{Rules: l}, api.ErrShape)
	}
}

// R5, R7: a call tells nothing to the next one, refused or not.
func TestCallsTellEachOtherNothing(t *testing.T) {
	x := newScramble()
	right := example(t)
	want := netOf(t, right)
	for i := range 500 {
		g := x.grammar(1+i%9, 6)
		x.spoil(g)
		checkAsModel(t, g)
		rules.Rename(right, i%4, "w")
		if !sameNet(want, netOf(t, right)) {
			t.Fatal("behind", g)
		}
		found(t, right, "t", 1, api.OK)
		found(t, right, "w", 0, api.ErrNone)
		checkAsModel(t, g)
	}
}

// R7: however often it is asked, in whatever order maps are gone over.
func TestTheSameEachTime(t *testing.T) {
	x := newScramble()
	for range 5 {
		g := x.grammar(40, 6)
		want := netOf(t, g)
		for range 20 {
			if !sameNet(want, netOf(t, g)) {
				t.Fatal(g)
			}
		}
	}
}

// P1: whatever is handed in, each call ends, and tells what the chapter says.
func TestCallsEnd(t *testing.T) {
	x := newScramble()
	extremes := []int{math.MinInt, math.MinInt32, -1, 0, 1, 50, 51, 200, 1 << 31, math.MaxInt}
	for i := range 2000 {
		g := x.grammar(1+i%5, 8)
		for range x.below(4) {
			r := &g.Rules[x.below(len(g.Rules))]
			n := &r.Body[x.below(len(r.Body))]
			switch x.below(4) {
			case 0:
				n.Op = extremes[x.below(len(extremes))]
			case 1:
				n.N = extremes[x.below(len(extremes))]
			case 2:
				n.Text = times("\xff", x.below(300))
			case 3:
				n.Set[x.below(4)] = math.MaxUint64
			}
		}
		checkAsModel(t, g)
	}
	huge := times("x", 1<<22)
	checked(t, spot(0, 0), api.ErrText, rule(huge, call(huge)))
	checked(t, spot(0, 0), api.ErrField, rule("a", call(huge)))
	checked(t, spot(1, 0), api.ErrText, anyRule("a"), rule(huge, call(huge)))
	found(t, grammar(anyRule("a")), huge, 0, api.ErrNone)
	notRenamed(t, grammar(anyRule("a")), 0, huge, api.ErrText)
}

// P1: as many calls as a grammar can have, from one rule and from all of them.
func TestMostCalls(t *testing.T) {
	var names []string
	for r := range 200 {
		names = append(names, nameOf(r))
	}
	p := list(call(names[0]))
	for i := range 900 {
		p = append(p, call(names[(i*7+1)%200]), op(api.PChoice))
	}
	l := make([]api.Rule, 200)
	for r := range l {
		l[r] = rule(names[r], call(names[199-r]))
	}
	l[100].Body = p
	g := grammar(l...)
	calls := callSquare(g)
	come := comeSquare(calls)
	if at, e := rules.Check(g); at != (api.Spot{}) || e != api.OK {
		t.Fatal(at, e)
	}
	called(t, g, 100, numbersOf(calls[100])...)
	reached(t, g, 99, wantedReach(come, 99)...)
	grouped(t, g, wantedGroups(calls, come)...)
	again(t, g, wantedAgain(come)...)
}
