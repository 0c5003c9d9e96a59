package rules_test

import (
	"regexp"
	"slices"
	"strconv"
	"strings"
	"testing"

	"harrow/api"
	"harrow/notation"
	"harrow/tree"
)

// The chapter, told otherwise than the package tells it: without maps, rules are searched one by one, and what a rule comes to is told by a square of marks.

var nameForm = regexp.MustCompile(`\A[A-Za-z_][A-Za-z_0-9]{0,31}\z`)

// wrongRule is what is wrong with a rule by itself and by those ahead of it.
func wrongRule(l []api.Rule, r int) (int, api.Errno) {
	if !nameForm.MatchString(l[r].Name) && (l[r].Name != "" || len(l) > 1) {
		return 0, 6
	}
	for _, ahead := range l[:r] {
		if ahead.Name == l[r].Name {
			return 0, 80
		}
	}
	if node, e := tree.Check(l[r].Body); e != 0 {
		return node, e
	}
	nodes := 0
	for _, x := range l[:r+1] {
		nodes += len(x.Body)
	}
	if nodes > 2048 {
		return 0, 2
	}
	return 0, 0
}

func wantedCheck(g api.Grammar) (api.Spot, api.Errno) {
	if len(g.Rules) == 0 {
		return api.Spot{}, 3
	}
	if len(g.Rules) > 200 {
		return api.Spot{}, 2
	}
	for r := range g.Rules {
		if node, e := wrongRule(g.Rules, r); e != 0 {
			return api.Spot{Rule: r, Node: node}, e
		}
	}
	for r, x := range g.Rules {
		for node, n := range x.Body {
			if n.Op == api.PCall && firstOf(g, n.Text) < 0 {
				return api.Spot{Rule: r, Node: node}, 81
			}
		}
	}
	return api.Spot{}, 0
}

// firstOf is the number of the first rule of a name; -1: there is none.
func firstOf(g api.Grammar, name string) int {
	return slices.IndexFunc(g.Rules, func(x api.Rule) bool { return x.Name == name })
}

// A square says of each rule, for each one, yes or no.
type square [][]bool

func newSquare(n int) square {
	s := make(square, n)
	for i := range s {
		s[i] = make([]bool, n)
	}
	return s
}

func callSquare(g api.Grammar) square {
	s := newSquare(len(g.Rules))
	for r, x := range g.Rules {
		for _, n := range x.Body {
			if n.Op == api.PCall {
				s[r][firstOf(g, n.Text)] = true
			}
		}
	}
	return s
}

// comeSquare: through more and more rules.
func comeSquare(calls square) square {
	s := newSquare(len(calls))
	for i := range s {
		copy(s[i], calls[i])
	}
	for via := range s {
		for from := range s {
			if !s[from][via] {
				continue
			}
			for to := range s {
				s[from][to] = s[from][to] || s[via][to]
			}
		}
	}
	return s
}

func numbersOf(marks []bool) []int {
	var l []int
	for i, m := range marks {
		if m {
			l = append(l, i)
		}
	}
	return l
}

func wantedReach(come square, r int) []int {
	marks := slices.Clone(come[r])
	marks[r] = true
	return numbersOf(marks)
}

func wantedGroup(come square, r int) []int {
	var l []int
	for other := range come {
		if other == r || come[r][other] && come[other][r] {
			l = append(l, other)
		}
	}
	return l
}

// wantedGroups goes by G3's words: all groups by their least rules, and of those that are free again and again the first one.
func wantedGroups(calls, come square) [][]int {
	var left, told [][]int
	for r := range come {
		if group := wantedGroup(come, r); group[0] == r {
			left = append(left, group)
		}
	}
	for len(left) > 0 {
		at := slices.IndexFunc(left, func(group []int) bool { return callsOnly(calls, group, told) })
		told = append(told, left[at])
		left = slices.Delete(left, at, at+1)
	}
	return told
}

func callsOnly(calls square, group []int, told [][]int) bool {
	allowed := slices.Concat(slices.Concat(told...), group)
	for _, r := range group {
		for c, is := range calls[r] {
			if is && !slices.Contains(allowed, c) {
				return false
			}
		}
	}
	return true
}

func wantedAgain(come square) []bool {
	var l []bool
	for r := range come {
		l = append(l, come[r][r])
	}
	return l
}

// wantedRename asks of each call which rule it means in the old grammar, and not how it is spelt.
func wantedRename(g api.Grammar, r int, name string) (api.Grammar, api.Errno) {
	if !nameForm.MatchString(name) {
		return api.Grammar{}, 6
	}
	if other := firstOf(g, name); other >= 0 && other != r {
		return api.Grammar{}, 80
	}
	h := cloned(g)
	for i := range h.Rules {
		for j, n := range h.Rules[i].Body {
			if n.Op == api.PCall && firstOf(g, n.Text) == r {
				h.Rules[i].Body[j].Text = name
			}
		}
	}
	h.Rules[r].Name = name
	return h, 0
}

func cloned(g api.Grammar) api.Grammar {
	var h api.Grammar
	for _, x := range g.Rules {
		h.Rules = append(h.Rules, api.Rule{Name: x.Name, Body: slices.Clone(x.Body)})
	}
	return h
}

func sameGrammar(a, b api.Grammar) bool {
	if len(a.Rules) != len(b.Rules) {
		return false
	}
	for i := range a.Rules {
		if a.Rules[i].Name != b.Rules[i].Name || !slices.Equal(a.Rules[i].Body, b.Rules[i].Body) {
			return false
		}
	}
	return true
}

func op(k int) api.Node                           { return api.Node{Op: k} }
func lit(s string) api.Node                       { return api.Node{Op: api.PText, Text: s} }
func call(s string) api.Node                      { return api.Node{Op: api.PCall, Text: s} }
func list(l ...api.Node) api.Pattern              { return l }
func rule(name string, body ...api.Node) api.Rule { return api.Rule{Name: name, Body: body} }
func grammar(l ...api.Rule) api.Grammar           { return api.Grammar{Rules: l} }
func times(s string, n int) string                { return strings.Repeat(s, n) }
func tower(n int, above, under api.Node) api.Pattern {
	return append(list(under), slices.Repeat(list(above), n)...)
}

// A row of n parts and a first one, put together from the left: 2n + 1 nodes.
func row(kind, n int, part api.Node) api.Pattern {
	p := list(part)
	for range n {
		p = append(p, part, op(kind))
	}
	return p
}

func read(t *testing.T, text string) api.Grammar {
	t.Helper()
	g, f := notation.Parse(text)
	if f != (api.Fault{}) {
		t.Fatal(text, f)
	}
	return g
}

func nameOf(r int) string {
	return "r" + strconv.Itoa(r)
}

// made is a grammar of which the k-th rule calls the rules of the k-th list, in its order.
func made(calls ...[]int) api.Grammar {
	var g api.Grammar
	for r, l := range calls {
		p := list(op(api.PAny))
		for _, c := range l {
			p = append(p, call(nameOf(c)), op(api.PChoice))
		}
		g.Rules = append(g.Rules, rule(nameOf(r), p...))
	}
	return g
}

// madeBy is the grammar of n rules in which the bits of a number say who calls whom.
func madeBy(n, bits int) api.Grammar {
	calls := make([][]int, n)
	for i := range n * n {
		if bits>>i&1 == 1 {
			calls[i/n] = append(calls[i/n], i%n)
		}
	}
	return made(calls...)
}

// Numbers without any order in them, the same ones each time.
type scramble uint64

func newScramble() *scramble {
	x := scramble(88172645463325252)
	return &x
}

func (x *scramble) below(n int) int {
	*x ^= *x << 13
	*x ^= *x >> 7
	*x ^= *x << 17
	return int(uint64(*x) >> 11 % uint64(n))
}

// A right node of a kind; one that may hold a text holds a rule's name, called or not.
func (x *scramble) node(kind int, names []string) api.Node {
	n := op(kind)
	switch kind {
	case api.PText, api.PCall, api.PGroup, api.PString:
		n.Text = names[x.below(len(names))]
	case api.PSet:
		n.Set = api.Set{uint64(x.below(1 << 20)), 0, 1}
	case api.PTimes, api.PLeast, api.PMost, api.PPick:
		n.N = x.below(51)
	}
	return n
}

// A right pattern of about so many nodes at most.
func (x *scramble) pattern(size int, names []string) api.Pattern {
	leaves := []int{api.PEmpty, api.PFail, api.PAny, api.PText, api.PSet, api.PPlace, api.PCall}
	if size < 2 || len(names) == 0 {
		kind := leaves[x.below(len(leaves))]
		if len(names) == 0 {
			kind = api.PAny
		}
		return list(x.node(kind, names))
	}
	kind := api.PSeq + x.below(17)
	if x.below(2) == 0 {
		kind = api.PSeq + x.below(2)
	}
	switch tree.Arity(kind) {
	case 0:
		return list(x.node(kind, names))
	case 1:
		return append(x.pattern(size-1, names), x.node(kind, names))
	}
	first := x.below(size)
	return append(append(x.pattern(first, names), x.pattern(size-1-first, names)...), x.node(kind, names))
}

// A right grammar of n rules, in names that stand in no order, each rule of which calls others with some luck.
func (x *scramble) grammar(n, size int) api.Grammar {
	var names []string
	for i := range n {
		names = append(names, string([]byte{byte('a' + i*7%26)})+strconv.Itoa(i*37%101))
	}
	var g api.Grammar
	for _, name := range names {
		few := names
		if x.below(3) > 0 {
			at := x.below(n)
			few = names[at:min(n, at+3)]
		}
		g.Rules = append(g.Rules, rule(name, x.pattern(1+x.below(size), few)...))
	}
	return g
}

func (x *scramble) order(n int) []int {
	l := make([]int, n)
	for i := range l {
		l[i] = i
	}
	for i := range l {
		j := i + x.below(n-i)
		l[i], l[j] = l[j], l[i]
	}
	return l
}

// Right grammars of all sorts.
func someGrammars() []api.Grammar {
	x := newScramble()
	l := []api.Grammar{grammar(rule("", op(api.PAny))), grammar(rule("", lit("a"), op(api.PStar))), madeBy(1, 0), madeBy(1, 1)}
	for i := range 16 {
		l = append(l, madeBy(2, i))
	}
	for i := range 512 {
		l = append(l, madeBy(3, i))
	}
	for range 1000 {
		l = append(l, madeBy(4, x.below(1<<16)))
	}
	for i := range 600 {
		l = append(l, x.grammar(1+i%14, 1+i%9))
	}
	for _, n := range []int{50, 199, 200} {
		for size := 1; size < 6; size++ {
			l = append(l, x.grammar(n, size))
		}
	}
	return l
}
