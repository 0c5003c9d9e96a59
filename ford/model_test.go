package ford_test

import (
	"fmt"
	"slices"
	"strconv"
	"strings"
	"testing"

	"harrow/api"
	"harrow/ford"
	"harrow/notation"
	"harrow/show"
	"harrow/tree"
)

// The chapter, told otherwise than the package tells it: patterns are cut from their ends, what may match nothing is asked with the rules that are so as a list that grows, and a way back is found from its end on, by how many steps each rule is away from it.

type words struct {
	g       api.Grammar
	nothing []string // the rules that may match nothing
	heads   [][]int
}

func wordsOf(g api.Grammar) words {
	w := words{g: g}
	for grown := true; grown; {
		grown = false
		for _, x := range g.Rules {
			if !slices.Contains(w.nothing, x.Name) && w.mayMatchNothing(x.Body) {
				w.nothing = append(w.nothing, x.Name)
				grown = true
			}
		}
	}
	for _, x := range g.Rules {
		var l []int
		for _, name := range w.begins(x.Body) {
			l = append(l, slices.IndexFunc(g.Rules, func(y api.Rule) bool { return y.Name == name }))
		}
		slices.Sort(l)
		w.heads = append(w.heads, slices.Compact(l))
	}
	return w
}

// cutParts takes a pattern's last node away, and cuts the rest into the node's parts: from the end back, till none is missing.
func cutParts(p api.Pattern) (n api.Node, first, second api.Pattern) {
	n = p[len(p)-1]
	rest := p[:len(p)-1]
	missing, at := 1, len(rest)
	for at > 0 && missing > 0 {
		at--
		missing += tree.Arity(rest[at].Op) - 1
	}
	if tree.Arity(n.Op) == 2 {
		return n, rest[:at], rest[at:]
	}
	return n, rest, nil
}

func (w words) mayMatchNothing(p api.Pattern) bool {
	n, first, second := cutParts(p)
	switch n.Op {
	case api.PEmpty, api.PStar, api.POpt, api.PAnd, api.PNot, api.PMost, api.PPlace:
		return true
	case api.PFail, api.PAny, api.PText, api.PSet:
		return false
	case api.PCall:
		return slices.Contains(w.nothing, n.Text)
	case api.PSeq:
		return w.mayMatchNothing(first) && w.mayMatchNothing(second)
	case api.PChoice:
		return w.mayMatchNothing(first) || w.mayMatchNothing(second)
	case api.PTimes, api.PLeast:
		return n.N == 0 || w.mayMatchNothing(first)
	}
	return w.mayMatchNothing(first)
}

func (w words) begins(p api.Pattern) []string {
	n, first, second := cutParts(p)
	if n.Op == api.PCall {
		return []string{n.Text}
	}
	if len(first) == 0 || n.N == 0 && (n.Op == api.PTimes || n.Op == api.PMost) {
		return nil
	}
	l := w.begins(first)
	if n.Op == api.PChoice || n.Op == api.PSeq && w.mayMatchNothing(first) {
		l = append(l, w.begins(second)...)
	}
	return l
}

func (w words) loops() []api.Spot {
	var l []api.Spot
	for r, x := range w.g.Rules {
		for at, n := range x.Body {
			if n.Op != api.PStar && n.Op != api.PPlus && n.Op != api.PLeast {
				continue
			}
			if part, _ := tree.Part(x.Body, at-1); w.mayMatchNothing(part) {
				l = append(l, api.Spot{Rule: r, Node: at})
			}
		}
	}
	return l
}

// wayBack asks which rules are one step away from a rule, two, and so on, till that rule is one of them; then it goes from it, each time to the least head that is so many steps away as are left.
func wayBack(heads [][]int, r int) []int {
	away := []map[int]bool{{r: true}}
	for steps := 1; steps <= len(heads); steps++ {
		now := map[int]bool{}
		for from, l := range heads {
			for _, to := range l {
				if away[steps-1][to] {
					now[from] = true
				}
			}
		}
		away = append(away, now)
		if !now[r] {
			continue
		}
		way := []int{r}
		for left := steps - 1; left > 0; left-- {
			l := heads[way[len(way)-1]]
			way = append(way, l[slices.IndexFunc(l, func(h int) bool { return away[left][h] })])
		}
		return way
	}
	return nil
}

func verdictBy(heads [][]int, loops []api.Spot) (api.Verdict, api.Errno) {
	for r := range heads {
		if way := wayBack(heads, r); way != nil {
			return api.Verdict{Cycle: way}, 100
		}
	}
	if len(loops) > 0 {
		return api.Verdict{Spot: loops[0]}, 101
	}
	return api.Verdict{}, 0
}

func orderBy(heads [][]int) []int {
	var order []int
	isTold := func(r int) bool { return slices.Contains(order, r) }
	for len(order) < len(heads) {
		for r, l := range heads {
			untold := slices.ContainsFunc(l, func(h int) bool { return !isTold(h) })
			if !isTold(r) && !untold {
				order = append(order, r)
				break
			}
		}
	}
	return order
}

// told is a verdict in short.
func told(v api.Verdict, e api.Errno) string {
	return strings.Trim(fmt.Sprint(v.Cycle), "[]") + " @" + fmt.Sprint(v.Spot.Rule) + "." + fmt.Sprint(v.Spot.Node) + " " + e.Error()
}

// text is a grammar in the notation, as far as it is short.
func text(g api.Grammar) string {
	s, e := show.Grammar(g)
	if e != api.OK {
		s = fmt.Sprint(g)
	}
	return s[:min(len(s), 400)]
}

// asWords holds all four calls against the chapter, of a right grammar.
func asWords(t *testing.T, g api.Grammar) {
	t.Helper()
	w := wordsOf(g)
	for r, want := range w.heads {
		if len(g.Rules) > 50 && r%20 > 1 { // it would take long to ask for all
			continue
		}
		if l, e := ford.Heads(g, r); !slices.Equal(l, want) || e != api.OK {
			t.Fatalf("Heads(%s, %d): %v, %v, want %v", text(g), r, l, e, want)
		}
	}
	loops := w.loops()
	if l, e := ford.Loops(g); !slices.Equal(l, loops) || e != api.OK {
		t.Fatalf("Loops(%s): %v, %v, want %v", text(g), l, e, loops)
	}
	want, wrong := verdictBy(w.heads, loops)
	if v, e := ford.Check(g); told(v, e) != told(want, wrong) {
		t.Fatalf("Check(%s): %v, want %v", text(g), told(v, e), told(want, wrong))
	}
	var order []int
	if wrong == api.OK {
		order = orderBy(w.heads)
	}
	if l, e := ford.Order(g); !slices.Equal(l, order) || e != wrong {
		t.Fatalf("Order(%s): %v, %v, want %v, %v", text(g), l, e, order, wrong)
	}
}

func op(k int) api.Node                           { return api.Node{Op: k} }
func counted(k, n int) api.Node                   { return api.Node{Op: k, N: n} }
func worded(k int, s string) api.Node             { return api.Node{Op: k, Text: s} }
func lit(s string) api.Node                       { return worded(api.PText, s) }
func call(s string) api.Node                      { return worded(api.PCall, s) }
func list(l ...api.Node) api.Pattern              { return l }
func rule(name string, body ...api.Node) api.Rule { return api.Rule{Name: name, Body: body} }
func grammar(l ...api.Rule) api.Grammar           { return api.Grammar{Rules: l} }
func nameOf(r int) string                         { return "r" + strconv.Itoa(r) }

// A row of n parts and a first one, put together from the left: 2n + 1 nodes.
func row(kind, n int, part api.Node) api.Pattern {
	p := list(part)
	for range n {
		p = append(p, part, op(kind))
	}
	return p
}

func read(t *testing.T, text string) api.Grammar {
	t.Helper()
	g, f := notation.Parse(text)
	if f != (api.Fault{}) {
		t.Fatal(text, f)
	}
	return g
}

// made is a grammar of which the k-th rule has the rules of the k-th list as its heads.
func made(heads ...[]int) api.Grammar {
	var g api.Grammar
	for r, l := range heads {
		p := list(op(api.PAny))
		for _, h := range l {
			p = append(p, call(nameOf(h)), op(api.PChoice))
		}
		g.Rules = append(g.Rules, rule(nameOf(r), p...))
	}
	return g
}

// headsBy are the heads of n rules, as the bits of a number say it.
func headsBy(n, bits int) [][]int {
	heads := make([][]int, n)
	for i := range n * n {
		if bits>>i&1 == 1 {
			heads[i/n] = append(heads[i/n], i%n)
		}
	}
	return heads
}

// Numbers without any order in them, the same ones each time.
type scramble uint64

func newScramble() *scramble {
	x := scramble(88172645463325252)
	return &x
}

func (x *scramble) below(n int) int {
	*x ^= *x << 13
	*x ^= *x >> 7
	*x ^= *x << 17
	return int(uint64(*x) >> 11 % uint64(n))
}

func (x *scramble) node(kind int, names []string) api.Node {
	n := op(kind)
	switch kind {
	case api.PText:
		n.Text = []string{"a", "b", "ab"}[x.below(3)]
	case api.PCall:
		n.Text = names[x.below(len(names))]
	case api.PGroup, api.PString:
		n.Text = []string{"", "k", "a0"}[x.below(3)]
	case api.PSet:
		n.Set = api.Set{0, uint64(x.below(8))}
	case api.PTimes, api.PLeast, api.PMost, api.PPick:
		n.N = []int{0, 0, 1, 2, 3}[x.below(5)]
	}
	return n
}

// A right pattern of about so many nodes at most, without calls if there are no names.
func (x *scramble) pattern(size int, names []string) api.Pattern {
	if size < 2 {
		leaves := []int{api.PText, api.PText, api.PEmpty, api.PFail, api.PAny, api.PSet, api.PPlace, api.PCall, api.PCall, api.PCall}
		if len(names) == 0 {
			leaves = leaves[:7]
		}
		return list(x.node(leaves[x.below(len(leaves))], names))
	}
	kind := api.PSeq + x.below(17)
	if x.below(2) == 0 {
		kind = api.PSeq + x.below(2)
	}
	switch tree.Arity(kind) {
	case 0:
		return list(x.node(kind, names))
	case 1:
		return append(x.pattern(size-1, names), x.node(kind, names))
	}
	first := x.below(size)
	return append(append(x.pattern(first, names), x.pattern(size-1-first, names)...), x.node(kind, names))
}

// A right grammar of n rules; each one calls a few of them.
func (x *scramble) grammar(n, size int) api.Grammar {
	var names []string
	for r := range n {
		names = append(names, string([]byte{byte('a' + r*7%26)})+strconv.Itoa(r*37%211))
	}
	var g api.Grammar
	for _, name := range names {
		at := x.below(n)
		g.Rules = append(g.Rules, rule(name, x.pattern(1+x.below(size), names[at:min(n, at+3)])...))
	}
	return g
}

func (x *scramble) order(n int) []int {
	l := make([]int, n)
	for i := range l {
		l[i] = i
	}
	for i := range l {
		j := i + x.below(n-i)
		l[i], l[j] = l[j], l[i]
	}
	return l
}

// Right grammars of all sorts, well formed or not.
func someGrammars(t *testing.T) []api.Grammar {
	t.Helper()
	l := []api.Grammar{
		read(t, "('a'?)*"), read(t, "'a'"), read(t, "s <- s 'a' / 'b'"), read(t, "a <- b 'x' b <- 'y'? a"), read(t, "a <- b b <- c c <- 'x'"),
		read(t, "a <- b ''* b <- c ''+ c <- 'x'* d / &b d <- ('a'?)^+2 !e e <- .^0 d"),
		read(t, "e <- t ('+' t)* t <- f ('*' f)* f <- [0-9]+ / '(' e ')'"),
	}
	x := newScramble()
	for i := range 400 {
		l = append(l, x.grammar(1+i%9, 1+i%11))
	}
	return append(l, x.grammar(200, 3))
}
