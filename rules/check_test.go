package rules_test

import (
	"math"
	"slices"
	"strings"
	"testing"

	"harrow/api"
	"harrow/rules"
)

// checked holds Check against what is written down, and that against the model.
func checked(t *testing.T, at api.Spot, e api.Errno, l ...api.Rule) {
	t.Helper()
	g := grammar(l...)
	if gotAt, got := rules.Check(g); gotAt != at || got != e {
		t.Errorf("Check of %d rules: %v, %v, want %v, %v", len(l), gotAt, got, at, e)
	}
	if gotAt, got := wantedCheck(g); gotAt != at || got != e {
		t.Errorf("the model of %d rules: %v, %v, want %v, %v", len(l), gotAt, got, at, e)
	}
}

func checkAsModel(t *testing.T, g api.Grammar) {
	t.Helper()
	at, e := wantedCheck(g)
	if gotAt, got := rules.Check(g); gotAt != at || got != e {
		t.Fatalf("Check(%v): %v, %v, want %v, %v", g, gotAt, got, at, e)
	}
	if e != api.OK {
		refusedByAll(t, g, e)
	}
}

// G1: all others refuse what Check does, ahead of all else that is wrong, and tell nothing besides (R5).
func refusedByAll(t *testing.T, g api.Grammar, want api.Errno) {
	t.Helper()
	for _, name := range []string{"", "r0", "1x", "no such rule"} {
		if r, e := rules.Find(g, name); r != 0 || e != want {
			t.Fatalf("Find(%q): %d, %v, want %v", name, r, e, want)
		}
	}
	for _, r := range []int{-1, 0, len(g.Rules) - 1, len(g.Rules)} {
		if l, e := rules.Calls(g, r); len(l) != 0 || e != want {
			t.Fatalf("Calls(%d): %v, %v, want %v", r, l, e, want)
		}
		if l, e := rules.Reach(g, r); len(l) != 0 || e != want {
			t.Fatalf("Reach(%d): %v, %v, want %v", r, l, e, want)
		}
		for _, name := range []string{"", "fresh", "r0", "1x"} {
			if h, e := rules.Rename(g, r, name); len(h.Rules) != 0 || e != want {
				t.Fatalf("Rename(%d, %q): %v, %v, want %v", r, name, h, e, want)
			}
		}
	}
	if l, e := rules.Groups(g); len(l) != 0 || e != want {
		t.Fatalf("Groups: %v, %v, want %v", l, e, want)
	}
	if l, e := rules.Again(g); len(l) != 0 || e != want {
		t.Fatalf("Again: %v, %v, want %v", l, e, want)
	}
}

func spot(r, node int) api.Spot { return api.Spot{Rule: r, Node: node} }

func anyRule(name string) api.Rule { return rule(name, op(api.PAny)) }

// G1: the chapter's examples.
func TestCheckOfTheExamples(t *testing.T) {
	checked(t, spot(0, 0), api.OK, read(t, "s <- 'a' t / %e t <- 'b' u u <- t / 'c' v <- s").Rules...)
	checked(t, spot(0, 0), api.ErrUnknown, rule("s", call("t")))
	checked(t, spot(1, 0), api.ErrTwice, rule("s", lit("a")), rule("s", lit("a")))
	checked(t, spot(0, 0), api.OK, rule("", lit("a")))
	checked(t, spot(0, 0), api.ErrText, rule("", lit("a")), rule("", lit("a")))
}

// G1
func TestName(t *testing.T) {
	for b := range 256 {
		c := byte(b)
		one := string([]byte{c})
		letter := c >= 'a' && c <= 'z' || c >= 'A' && c <= 'Z' || c == '_'
		digit := c >= '0' && c <= '9'
		for name, want := range map[string]bool{one: letter, one + "x": letter, "x" + one: letter || digit, "x" + one + "y": letter || digit, one + one: letter} {
			if rules.Name(name) != want {
				t.Errorf("Name(%q): %v", name, !want)
			}
			e := api.OK
			if !want {
				e = api.ErrText
			}
			checked(t, spot(0, 0), e, anyRule(name))
		}
	}
	for n := range 70 {
		for _, name := range []string{times("n", n), times("_", n), times("Z", n/2) + times("9", n-n/2)} {
			want := n >= 1 && n <= 32 && name[0] != '9'
			if rules.Name(name) != want {
				t.Errorf("Name of %d bytes: %v", n, !want)
			}
		}
	}
	for _, name := range []string{"\xce\xb1", "a\xce\xb1", "a b", " a", "a ", "a\n", "\na", "a\x00", "a-b", "a.b", "%e", "<-", times("n", 255), times("n", 1<<16), times("n", 1<<16+1), times("n", 1<<22)} {
		if rules.Name(name) {
			t.Errorf("Name of %d bytes: true", len(name))
		}
		checked(t, spot(0, 0), api.ErrText, anyRule(name))
		checked(t, spot(1, 0), api.ErrText, anyRule("a"), anyRule(name), anyRule("b"))
		checked(t, spot(2, 0), api.ErrText, anyRule("a"), anyRule("b"), anyRule(name))
	}
}

// G1: a name of MaxName bytes, and of one more, in a rule and in a call of it.
func TestLongestName(t *testing.T) {
	most := times("n", api.MaxName)
	checked(t, spot(0, 0), api.OK, anyRule(most))
	checked(t, spot(0, 0), api.OK, rule(most, call(most)), rule("n", call(most)))
	checked(t, spot(0, 0), api.ErrText, anyRule(most+"n"))
	checked(t, spot(1, 0), api.ErrText, anyRule(most), anyRule(most+"n"))
	checked(t, spot(0, 0), api.ErrField, rule(most, call(most+"n")))
	checked(t, spot(0, 0), api.OK, anyRule(most), anyRule(most[1:]))
}

// G1: an empty Name stands alone, or not at all.
func TestEmptyNames(t *testing.T) {
	checked(t, spot(0, 0), api.OK, anyRule(""))
	checked(t, spot(0, 0), api.ErrText, anyRule(""), anyRule(""))
	checked(t, spot(0, 0), api.ErrText, anyRule(""), anyRule("a"))
	checked(t, spot(1, 0), api.ErrText, anyRule("a"), anyRule(""))
	checked(t, spot(1, 0), api.ErrText, anyRule("a"), anyRule(""), anyRule("b"))
	checked(t, spot(2, 0), api.ErrText, anyRule("a"), anyRule("b"), anyRule(""))
}

// G1
func TestNoRule(t *testing.T) {
	checked(t, spot(0, 0), api.ErrShape)
	checked(t, spot(0, 0), api.ErrShape, []api.Rule{}...)
	checked(t, spot(0, 0), api.ErrShape, []api.Rule{anyRule("a")}[:0]...)
	refusedByAll(t, api.Grammar{}, api.ErrShape)
	refusedByAll(t, grammar([]api.Rule{anyRule("a")}[:0]...), api.ErrShape)
}

func manyRules(n int) []api.Rule {
	var l []api.Rule
	for i := range n {
		l = append(l, anyRule(nameOf(i)))
	}
	return l
}

// G1: MaxRules rules may stand; that there are more comes ahead of all that is wrong with one of them.
func TestMostRules(t *testing.T) {
	for _, n := range []int{1, 2, 199, api.MaxRules} {
		checked(t, spot(0, 0), api.OK, manyRules(n)...)
		wrong := manyRules(n)
		wrong[n-1].Name = "1"
		checked(t, spot(n-1, 0), api.ErrText, wrong...)
	}
	for _, n := range []int{201, 202, 1000, 5000} {
		checked(t, spot(0, 0), api.ErrLong, manyRules(n)...)
		checked(t, spot(0, 0), api.ErrLong, make([]api.Rule, n)...)
		refusedByAll(t, grammar(manyRules(n)...), api.ErrLong)
		for at, bad := range []api.Rule{rule("1", op(0)), rule("r1", op(0)), rule("r0"), rule("x", call("nowhere"))} {
			wrong := manyRules(n)
			wrong[at] = bad
			checked(t, spot(0, 0), api.ErrLong, wrong...)
		}
	}
	checked(t, spot(0, 0), api.ErrLong, make([]api.Rule, 1<<18)...)
}

// G1: of rules of one name all but the first one are wrong, and the first one of these is told.
func TestTwice(t *testing.T) {
	for n := 2; n <= 6; n++ {
		for i := range n {
			for j := i + 1; j < n; j++ {
				l := manyRules(n)
				l[j].Name = l[i].Name
				checked(t, spot(j, 0), api.ErrTwice, l...)
				l[n-1].Name = l[i].Name
				checked(t, spot(j, 0), api.ErrTwice, l...)
			}
		}
	}
	l := manyRules(200)
	l[199].Name = "r0"
	checked(t, spot(199, 0), api.ErrTwice, l...)
	l[150].Name = "r149"
	checked(t, spot(150, 0), api.ErrTwice, l...)
	// Of two pairs the one that is closed first, not the one that is begun first.
	checked(t, spot(2, 0), api.ErrTwice, anyRule("a"), anyRule("b"), anyRule("b"), anyRule("a"))
	// Names that are others by one byte.
	checked(t, spot(0, 0), api.OK, anyRule("a"), anyRule("A"), anyRule("a_"), anyRule("_a"), anyRule("aa"), anyRule("a0"))
	// Patterns may be the same.
	checked(t, spot(0, 0), api.OK, rule("a", call("b"), op(api.PStar)), rule("b", call("b"), op(api.PStar)))
}

// What layer 4 refuses of a pattern, and the node that it tells.
type wrongPattern struct {
	p    api.Pattern
	node int
	e    api.Errno
}

func wrongPatterns() []wrongPattern {
	a, star := lit("a"), op(api.PStar)
	return []wrongPattern{
		{nil, 0, api.ErrParts}, {list(), 0, api.ErrParts}, {list(star), 0, api.ErrParts}, {list(a, a), 2, api.ErrParts},
		{list(a, op(api.PSeq)), 1, api.ErrParts}, {list(a, a, op(api.PSeq), op(api.PChoice)), 3, api.ErrParts},
		{list(op(0)), 0, api.ErrOp}, {list(a, star, op(24)), 2, api.ErrOp}, {list(a, op(math.MinInt)), 1, api.ErrOp},
		{list(lit("")), 0, api.ErrField}, {list(call("")), 0, api.ErrField}, {list(a, call("1x")), 1, api.ErrField},
		{list(a, api.Node{Op: api.PString, Text: "%"}), 1, api.ErrField}, {list(a, star, api.Node{Op: api.PMost, N: 51}), 2, api.ErrField},
		{tower(60, star, a), 60, api.ErrDeep}, {append(tower(60, star, a), a), 60, api.ErrDeep},
		{row(api.PSeq, 1024, a), 0, api.ErrLong}, {make(api.Pattern, 1<<18), 0, api.ErrLong},
	}
}

// G1: each thing that layer 4's Check refuses, with its node, of a pattern alone and of any rule among others.
func TestWrongPatterns(t *testing.T) {
	for _, x := range wrongPatterns() {
		checked(t, spot(0, x.node), x.e, rule("", x.p...))
		checked(t, spot(0, x.node), x.e, rule("s", x.p...))
		for n := 2; n <= 5; n++ {
			for r := range n {
				l := manyRules(n)
				l[r].Body = x.p
				checked(t, spot(r, x.node), x.e, l...)
			}
		}
		refusedByAll(t, grammar(anyRule("b"), rule("s", x.p...)), x.e)
	}
}

// G1: of one rule the name comes first, then its being there already, then the pattern, then all nodes together.
func TestWhatIsToldFirstOfARule(t *testing.T) {
	full := rule("a", row(api.PSeq, 1023, op(api.PAny))...) // 2047 nodes
	for _, x := range wrongPatterns() {
		checked(t, spot(0, 0), api.ErrText, rule("1", x.p...))
		checked(t, spot(0, 0), api.ErrText, rule("", x.p...), anyRule("b"))
		checked(t, spot(1, 0), api.ErrText, anyRule("b"), rule("", x.p...))
		checked(t, spot(1, 0), api.ErrText, anyRule("b"), rule("b ", x.p...))
		checked(t, spot(1, 0), api.ErrTwice, anyRule("b"), rule("b", x.p...))
		checked(t, spot(1, 0), api.ErrTwice, full, rule("a", x.p...))
		checked(t, spot(1, x.node), x.e, full, rule("b", x.p...))
	}
	checked(t, spot(1, 0), api.ErrText, full, rule("1", lit("a"), op(api.PNot)))
	checked(t, spot(1, 0), api.ErrTwice, full, rule("a", lit("a"), op(api.PNot)))
	checked(t, spot(1, 0), api.ErrLong, full, rule("b", lit("a"), op(api.PNot)))
	// Two of no name: that the second one has the first one's does not come up.
	checked(t, spot(0, 0), api.ErrText, anyRule("1"), anyRule("1"))
}

// G1: of several rules that are wrong the first one is told, whatever is wrong with it.
func TestWhatIsToldFirstOfRules(t *testing.T) {
	full := rule("f", row(api.PSeq, 1022, op(api.PAny))...) // 2045 nodes
	wrong := []struct {
		l []api.Rule
		e api.Errno
	}{
		{[]api.Rule{anyRule("1")}, api.ErrText},
		{[]api.Rule{anyRule("a")}, api.ErrTwice},
		{[]api.Rule{rule("x", op(0))}, api.ErrOp},
		{[]api.Rule{rule("y", lit(""))}, api.ErrField},
		{[]api.Rule{rule("z", op(api.PSeq))}, api.ErrParts},
		{[]api.Rule{rule("u", tower(60, op(api.PSub), lit("a"))...)}, api.ErrDeep},
		{[]api.Rule{rule("v", row(api.PSeq, 1100, lit("a"))...)}, api.ErrLong},
		{[]api.Rule{rule("w", tower(3, op(api.PSub), lit("a"))...)}, api.ErrLong},
	}
	for _, x := range wrong {
		for _, y := range wrong {
			l := append([]api.Rule{anyRule("a"), full}, x.l...)
			l = append(append(l, y.l...), anyRule("2"))
			at, e := rules.Check(grammar(l...))
			if at.Rule != 2 || e != x.e {
				t.Errorf("%v, then %v: %v, %v", x.e, y.e, at, e)
			}
			checkAsModel(t, grammar(l...))
			// A call of nothing ahead of both comes behind both.
			l[0] = rule("a", call("nowhere"))
			if again, f := rules.Check(grammar(l...)); again != at || f != e {
				t.Errorf("%v with a call of nothing: %v, %v", x.e, again, f)
			}
		}
	}
}

// G1: all patterns have at most MaxNodes nodes together; the rule with which they have more is told.
func TestAllNodesTogether(t *testing.T) {
	any, star := op(api.PAny), op(api.PStar)
	most := row(api.PSeq, 1023, any) // 2047 nodes
	checked(t, spot(0, 0), api.OK, rule("", append(slices.Clone(most), star)...))
	checked(t, spot(0, 0), api.OK, rule("a", most...), anyRule("b"))
	checked(t, spot(0, 0), api.OK, anyRule("b"), rule("a", most...))
	checked(t, spot(0, 0), api.ErrLong, rule("", append(slices.Clone(most), star, star)...))
	checked(t, spot(1, 0), api.ErrLong, rule("a", most...), rule("b", any, star))
	checked(t, spot(1, 0), api.ErrLong, rule("b", any, star), rule("a", most...))
	checked(t, spot(2, 0), api.ErrLong, rule("a", most...), anyRule("b"), anyRule("c"))
	checked(t, spot(2, 0), api.ErrLong, rule("a", most...), anyRule("b"), anyRule("c"), anyRule("d"))
	checked(t, spot(1, 0), api.ErrLong, rule("a", most...), rule("b", most...), rule("c", most...))

	// 200 rules of 10 nodes, and one that has 58 of them: just as many as there may be.
	l := manyRules(200)
	for i := range l {
		l[i].Body = tower(9, star, any)
	}
	l[77].Body = tower(57, star, any)
	checked(t, spot(0, 0), api.OK, l...)
	for _, r := range []int{0, 76, 78, 198, 199} {
		more := slices.Clone(l)
		more[r].Body = tower(10, star, any)
		checked(t, spot(199, 0), api.ErrLong, more...)
		more[190].Body = tower(30, star, any)
		at, e := rules.Check(grammar(more...))
		if e != api.ErrLong || at.Node != 0 || at.Rule < 190 {
			t.Error(r, at, e)
		}
		checkAsModel(t, grammar(more...))
	}
	// What is wrong with a rule behind it comes later, and so does a call of nothing.
	checked(t, spot(1, 0), api.ErrLong, rule("a", most...), rule("b", any, star), anyRule("1"))
	checked(t, spot(1, 0), api.ErrLong, rule("a", most...), rule("b", any, star), anyRule("a"))
	checked(t, spot(1, 0), api.ErrLong, rule("a", most...), rule("b", any, star), rule("c", op(0)))
	checked(t, spot(1, 0), api.ErrLong, rule("a", most...), rule("b", call("nowhere"), star))
	checked(t, spot(2, 0), api.ErrText, rule("a", most...), anyRule("b"), anyRule("1"))
}

// G1: of the first rule, in it of the first node; behind all else.
func TestUnknown(t *testing.T) {
	seq, choice := op(api.PSeq), op(api.PChoice)
	checked(t, spot(0, 0), api.ErrUnknown, rule("", call("t")))
	checked(t, spot(0, 1), api.ErrUnknown, rule("", lit("a"), call("t"), seq))
	checked(t, spot(0, 0), api.OK, rule("s", call("s")))
	checked(t, spot(0, 0), api.OK, rule("s", call("t")), rule("t", call("s")))
	checked(t, spot(1, 1), api.ErrUnknown, rule("s", call("t")), rule("t", call("s"), call("u"), choice))
	checked(t, spot(0, 3), api.ErrUnknown, rule("s", call("s"), lit("u"), seq, call("u"), choice, call("v"), choice))
	checked(t, spot(0, 1), api.ErrUnknown, rule("s", call("s"), call("v"), seq, call("u"), choice), rule("t", call("w")))
	checked(t, spot(2, 0), api.ErrUnknown, rule("s", call("t")), rule("t", call("u")), rule("u", call("w"), call("v"), seq))
	for _, name := range []string{"S", "ss", "_s", "s_", "s0", times("s", 32)} {
		checked(t, spot(0, 0), api.ErrUnknown, rule("s", call(name)))
		checked(t, spot(1, 0), api.ErrUnknown, rule("s", call("t")), rule("t", call(name)))
	}
	// What only looks like a name calls nothing.
	checked(t, spot(0, 0), api.OK, rule("s", lit("t"), api.Node{Op: api.PGroup, Text: "u"}, api.Node{Op: api.PString, Text: "v"}))
	// What is wrong with any rule comes ahead of it.
	checked(t, spot(1, 0), api.ErrText, rule("s", call("t")), anyRule("1"))
	checked(t, spot(1, 0), api.ErrTwice, rule("s", call("t")), anyRule("s"))
	checked(t, spot(2, 1), api.ErrParts, rule("s", call("t")), anyRule("u"), rule("v", lit("a"), seq))
	l := manyRules(200)
	l[199].Body = list(call("nowhere"))
	checked(t, spot(199, 0), api.ErrUnknown, l...)
	refusedByAll(t, grammar(l...), api.ErrUnknown)
	l[0].Body = list(op(api.PAny), call("r199"), seq, call("r200"), seq)
	checked(t, spot(0, 3), api.ErrUnknown, l...)
}

// G1: right grammars of all sorts are right.
func TestCheckOfRightOnes(t *testing.T) {
	for i, g := range someGrammars() {
		if at, e := rules.Check(g); at != (api.Spot{}) || e != api.OK {
			t.Fatalf("%d: %v, %v: %v", i, at, e, g)
		}
	}
}

// spoil makes a grammar wrong somewhere, most times.
func (x *scramble) spoil(g api.Grammar) {
	r := &g.Rules[x.below(len(g.Rules))]
	if len(r.Body) == 0 {
		return
	}
	switch x.below(9) {
	case 0:
		r.Name = []string{"", "1", "a b", "a-", times("n", 33), "\x00"}[x.below(6)]
	case 1:
		r.Name = g.Rules[x.below(len(g.Rules))].Name
	case 2:
		r.Body = r.Body[1:]
	case 3:
		r.Body = append(r.Body, op(x.below(26)-1))
	case 4:
		r.Body[x.below(len(r.Body))].N += x.below(60)
	case 5:
		r.Body = append(r.Body, slices.Repeat(list(op(api.PSub)), 59)...)
	case 6:
		r.Body[x.below(len(r.Body))] = call(strings.ToUpper(r.Name))
	case 7:
		r.Body = row(api.PChoice, 400+x.below(700), op(api.PAny))
	case 8:
		r.Body = append(list(call("nowhere"+times("e", x.below(30)))), op(api.PNot))
	}
}

// G1: grammars that are wrong in one way, and in several ones.
func TestCheckOfSpoiltOnes(t *testing.T) {
	x := newScramble()
	told := map[api.Errno]int{}
	for i := range 4000 {
		g := x.grammar(1+i%6, 6)
		for range 1 + x.below(4) {
			x.spoil(g)
		}
		checkAsModel(t, g)
		_, e := rules.Check(g)
		told[e]++
	}
	for _, e := range []api.Errno{api.OK, api.ErrLong, api.ErrText, api.ErrTwice, api.ErrOp, api.ErrField, api.ErrParts, api.ErrDeep, api.ErrUnknown} {
		if told[e] < 20 {
			t.Errorf("%v was told %d times", e, told[e])
		}
	}
}

// G1: a rule's number, behind all that Check refuses and ahead of all else.
func TestNumbersOfRules(t *testing.T) {
	for _, n := range []int{1, 2, 5, 200} {
		g := grammar(manyRules(n)...)
		for _, r := range []int{0, n / 2, n - 1} {
			if l, e := rules.Calls(g, r); len(l) != 0 || e != api.OK {
				t.Errorf("Calls(%d) of %d: %v, %v", r, n, l, e)
			}
			if l, e := rules.Reach(g, r); !slices.Equal(l, []int{r}) || e != api.OK {
				t.Errorf("Reach(%d) of %d: %v, %v", r, n, l, e)
			}
			if h, e := rules.Rename(g, r, "fresh"); len(h.Rules) != n || e != api.OK {
				t.Errorf("Rename(%d) of %d: %v, %v", r, n, h, e)
			}
		}
		for _, r := range []int{-1, -2, -n, n, n + 1, 200, 201, 1 << 32, -1 << 32, math.MinInt, math.MaxInt} {
			if l, e := rules.Calls(g, r); len(l) != 0 || e != api.ErrRange {
				t.Errorf("Calls(%d) of %d: %v, %v", r, n, l, e)
			}
			if l, e := rules.Reach(g, r); len(l) != 0 || e != api.ErrRange {
				t.Errorf("Reach(%d) of %d: %v, %v", r, n, l, e)
			}
			for _, name := range []string{"fresh", "r0", "1x", ""} {
				if h, e := rules.Rename(g, r, name); len(h.Rules) != 0 || e != api.ErrRange {
					t.Errorf("Rename(%d, %q) of %d: %v, %v", r, name, n, h, e)
				}
			}
		}
	}
}
