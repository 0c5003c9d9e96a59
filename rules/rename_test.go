package rules_test

import (
	"slices"
	"testing"

	"harrow/api"
	"harrow/rules"
)

func renamed(t *testing.T, g api.Grammar, r int, name string, want api.Grammar) {
	t.Helper()
	if h, e := rules.Rename(g, r, name); !sameGrammar(h, want) || e != api.OK {
		t.Errorf("Rename(%v, %d, %s): %v, %v, want %v", g, r, name, h, e, want)
	}
}

func notRenamed(t *testing.T, g api.Grammar, r int, name string, want api.Errno) {
	t.Helper()
	if h, e := rules.Rename(g, r, name); len(h.Rules) != 0 || e != want {
		t.Errorf("Rename(%v, %d, %.40q): %v, %v, want %v", g, r, name, h, e, want)
	}
}

// G4: the chapter's example.
func TestRenameOfTheExample(t *testing.T) {
	g := example(t)
	renamed(t, g, 1, "w", read(t, "s <- 'a' w / %e w <- 'b' u u <- w / 'c' v <- s"))
	notRenamed(t, g, 1, "s", api.ErrTwice)
	notRenamed(t, g, 1, "1x", api.ErrText)
}

// G4: in its own pattern, in others', often in one, and in none.
func TestRename(t *testing.T) {
	g := read(t, "a <- a b a / !a b <- {:a: a+ :} 'a' c c <- 'c'")
	renamed(t, g, 0, "x", read(t, "x <- x b x / !x b <- {:a: x+ :} 'a' c c <- 'c'"))
	renamed(t, g, 1, "x", read(t, "a <- a x a / !a x <- {:a: a+ :} 'a' c c <- 'c'"))
	renamed(t, g, 2, "x", read(t, "a <- a b a / !a b <- {:a: a+ :} 'a' x x <- 'c'"))
	// A name that stands in a group, in a literal or in a string is not a rule's.
	g = grammar(rule("a", lit("a"), api.Node{Op: api.PGroup, Text: "a"}, api.Node{Op: api.PString, Text: "a"}, call("a"), op(api.PSeq)))
	h := cloned(g)
	h.Rules[0].Name, h.Rules[0].Body[3].Text = "b", "b"
	renamed(t, g, 0, "b", h)
	// Names of which one is the other's beginning.
	renamed(t, read(t, "a <- aa a aa <- a aa"), 0, "aaa", read(t, "aaa <- aa aaa aa <- aaa aa"))
	renamed(t, read(t, "a <- aa A A <- a aa <- a"), 1, "B", read(t, "a <- aa B B <- a aa <- a"))
	most := times("n", 32)
	renamed(t, read(t, "a <- b b <- a"), 1, most, read(t, "a <- "+most+" "+most+" <- a"))
	for name := range map[string]int{"_": 0, "_9": 0, "Z": 0, "a0": 0} {
		renamed(t, read(t, "q <- q"), 0, name, read(t, name+" <- "+name))
	}
}

// G4: to the rule's own name: nothing changes.
func TestRenameToItsOwnName(t *testing.T) {
	g := example(t)
	for r, x := range g.Rules {
		renamed(t, g, r, x.Name, g)
	}
	renamed(t, read(t, "a <- a"), 0, "a", read(t, "a <- a"))
}

// G4: to each other rule's name.
func TestRenameToAnotherName(t *testing.T) {
	for _, n := range []int{2, 3, 200} {
		g := grammar(manyRules(n)...)
		for _, r := range []int{0, 1, n - 1} {
			for _, other := range []int{0, 1, n / 2, n - 1} {
				if other != r {
					notRenamed(t, g, r, nameOf(other), api.ErrTwice)
				}
			}
		}
	}
}

// G4: to what is no name; that comes ahead of all else that is wrong with it, and behind a wrong number (G1).
func TestRenameToNoName(t *testing.T) {
	for _, g := range []api.Grammar{example(t), read(t, "a <- a"), grammar(anyRule(""))} {
		for _, name := range []string{"", "1", "1x", "a b", " a", "a ", "a\n", "a\x00", "a-", "\xce\xb1", "<-", times("n", 33), times("n", 255), times("n", 1<<16), times("n", 1<<16+1), times("n", 1<<22)} {
			notRenamed(t, g, 0, name, api.ErrText)
			notRenamed(t, g, len(g.Rules)-1, name, api.ErrText)
			notRenamed(t, g, len(g.Rules), name, api.ErrRange)
			notRenamed(t, g, -1, name, api.ErrRange)
		}
	}
}

// G4: a pattern alone gets a name; its groups without one get none.
func TestRenameOfAPatternAlone(t *testing.T) {
	renamed(t, grammar(anyRule("")), 0, "s", grammar(anyRule("s")))
	g := grammar(rule("", lit("a"), op(api.PGroup), op(api.PString), op(api.PEmpty), op(api.PSeq)))
	h := cloned(g)
	h.Rules[0].Name = "s"
	renamed(t, g, 0, "s", h)
}

// G4: all grammars, each rule, names of all sorts.
func TestRenameAsModel(t *testing.T) {
	for _, g := range someGrammars() {
		for r := range g.Rules {
			if len(g.Rules) > 20 && r%29 > 0 {
				continue
			}
			for _, name := range []string{"fresh", "_", "", "1x", g.Rules[0].Name, g.Rules[r].Name, g.Rules[len(g.Rules)-1].Name} {
				want, code := wantedRename(g, r, name)
				if h, e := rules.Rename(g, r, name); !sameGrammar(h, want) || e != code {
					t.Fatalf("Rename(%v, %d, %s): %v, %v, want %v, %v", g, r, name, h, e, want, code)
				}
			}
		}
	}
}

func same(t *testing.T, a, b api.Grammar, want bool) {
	t.Helper()
	if rules.Same(a, b) != want || rules.Same(b, a) != want {
		t.Errorf("Same(%v, %v): %v, and turned about %v, want %v", a, b, rules.Same(a, b), rules.Same(b, a), want)
	}
}

// G4: names, patterns, and how many rules there are, in their order.
func TestSame(t *testing.T) {
	g := example(t)
	same(t, g, example(t), true)
	same(t, g, g, true)
	for r := range g.Rules {
		same(t, g, grammar(g.Rules[:r]...), false)
		same(t, g, grammar(slices.Delete(slices.Clone(g.Rules), r, r+1)...), false)
		h := cloned(g)
		h.Rules[r].Name += "_"
		same(t, g, h, false)
		h = cloned(g)
		h.Rules[r].Body = append(h.Rules[r].Body, op(api.PStar))
		same(t, g, h, false)
		for at := range g.Rules[r].Body {
			for _, change := range []func(*api.Node){
				func(n *api.Node) { n.Op++ }, func(n *api.Node) { n.N = 1 }, func(n *api.Node) { n.Text += "x" }, func(n *api.Node) { n.Set[3] = 1 },
			} {
				h := cloned(g)
				change(&h.Rules[r].Body[at])
				same(t, g, h, false)
			}
		}
	}
	same(t, g, grammar(append(slices.Clone(g.Rules), anyRule("w"))...), false)
	same(t, grammar(anyRule("a"), anyRule("b")), grammar(anyRule("b"), anyRule("a")), false)
	same(t, grammar(anyRule("a"), rule("b", lit("c"))), grammar(rule("a", lit("c")), anyRule("b")), false)
	// Other names for the same thing are other names.
	same(t, read(t, "a <- a"), read(t, "b <- b"), false)
}

// G4: whether they are right or not; a list without an element is nil or empty (R3).
func TestSameOfWrongOnes(t *testing.T) {
	same(t, api.Grammar{}, api.Grammar{Rules: []api.Rule{}}, true)
	same(t, api.Grammar{}, grammar(anyRule("")), false)
	same(t, api.Grammar{}, grammar(rule("")), false)
	same(t, grammar(rule("a")), grammar(rule("a", list()...)), true)
	same(t, grammar(api.Rule{Body: nil}), grammar(api.Rule{Body: api.Pattern{}}), true)
	same(t, grammar(rule("1", op(-7)), rule("1", op(-7))), grammar(rule("1", op(-7)), rule("1", op(-7))), true)
	same(t, grammar(rule("1", op(-7))), grammar(rule("1", op(-8))), false)
	same(t, grammar(rule("a", call("nowhere"))), grammar(rule("a", call("nowhere"))), true)
	many := make([]api.Rule, 5000)
	same(t, grammar(many...), grammar(many...), true)
	same(t, grammar(many...), grammar(many[:4999]...), false)
	long := rule("a", make(api.Pattern, 5000)...)
	other := rule("a", make(api.Pattern, 5000)...)
	same(t, grammar(long), grammar(other), true)
	other.Body[4999].N = 1
	same(t, grammar(long), grammar(other), false)
	x := newScramble()
	for range 300 {
		g := x.grammar(1+x.below(5), 5)
		h := cloned(g)
		x.spoil(h)
		same(t, g, h, sameGrammar(g, h))
		same(t, h, cloned(h), true)
	}
}
