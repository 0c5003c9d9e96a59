package empty_test

import (
	"math"
	"slices"
	"strconv"
	"strings"
	"testing"

	"harrow/api"
	"harrow/empty"
	"harrow/notation"
	"harrow/tree"
)

// The chapter, told otherwise than the package tells it: the table is told column by column, lengths are floats (none and no bound are infinite), patterns are cut from their ends, and rules are told either by going into each one that is not open yet, or by the chapter's rounds, as many as there could be need of.

type tale struct {
	nullable, canFail bool
	least, most       float64
}

var infinite = math.Inf(1)

func (x tale) known() api.Emptiness {
	number := func(f float64) int {
		if f == infinite {
			return -1
		}
		return int(f)
	}
	return api.Emptiness{Nullable: x.nullable, CanFail: x.canFail, Least: number(x.least), Most: number(x.most)}
}

func nullableColumn(n api.Node, x, y bool) bool {
	switch n.Op {
	case api.PFail, api.PAny, api.PSet, api.PText:
		return false
	case api.PSeq:
		return x && y
	case api.PChoice:
		return x || y
	case api.PTimes, api.PLeast:
		return x || n.N == 0
	case api.PPlus, api.PSub, api.PGroup, api.PList, api.PSubst, api.PString, api.PPick:
		return x
	}
	return true
}

func canFailColumn(n api.Node, x, y bool) bool {
	switch n.Op {
	case api.PEmpty, api.PPlace, api.PStar, api.POpt, api.PMost:
		return false
	case api.PSeq:
		return x || y
	case api.PChoice:
		return x && y
	case api.PTimes, api.PLeast:
		return x && n.N > 0
	case api.PPlus, api.PAnd, api.PSub, api.PGroup, api.PList, api.PSubst, api.PString, api.PPick:
		return x
	}
	return true
}

func leastColumn(n api.Node, x, y float64) float64 {
	switch n.Op {
	case api.PFail:
		return infinite
	case api.PAny, api.PSet:
		return 1
	case api.PText:
		return float64(len(n.Text))
	case api.PSeq:
		return x + y
	case api.PChoice:
		return min(x, y)
	case api.PTimes, api.PLeast:
		if n.N > 0 {
			return float64(n.N) * x
		}
	case api.PPlus, api.PSub, api.PGroup, api.PList, api.PSubst, api.PString, api.PPick:
		return x
	}
	return 0
}

func mostColumn(n api.Node, x, y float64) float64 {
	switch n.Op {
	case api.PAny, api.PSet:
		return 1
	case api.PText:
		return float64(len(n.Text))
	case api.PSeq:
		return x + y
	case api.PChoice:
		return max(x, y)
	case api.PStar, api.PPlus, api.PLeast:
		if x > 0 {
			return infinite
		}
	case api.PTimes, api.PMost:
		if n.N > 0 {
			return float64(n.N) * x
		}
	case api.POpt, api.PSub, api.PGroup, api.PList, api.PSubst, api.PString, api.PPick:
		return x
	}
	return 0
}

// cutParts takes a pattern's last node away, and cuts the rest into the node's parts: from the end back, till none is missing.
func cutParts(p api.Pattern) (n api.Node, first, second api.Pattern) {
	n = p[len(p)-1]
	rest := p[:len(p)-1]
	missing, at := 1, len(rest)
	for at > 0 && missing > 0 {
		at--
		missing += tree.Arity(rest[at].Op) - 1
	}
	if tree.Arity(n.Op) == 2 {
		return n, rest[:at], rest[at:]
	}
	return n, rest, nil
}

// taleOf is the table, for a pattern whose rules are told by of.
func taleOf(p api.Pattern, of func(name string) tale) tale {
	n, first, second := cutParts(p)
	if n.Op == api.PCall {
		return of(n.Text)
	}
	var x, y tale
	if len(first) > 0 {
		x = taleOf(first, of)
	}
	if len(second) > 0 {
		y = taleOf(second, of)
	}
	whole := tale{
		nullable: nullableColumn(n, x.nullable, y.nullable),
		canFail:  canFailColumn(n, x.canFail, y.canFail),
		least:    leastColumn(n, x.least, y.least),
		most:     mostColumn(n, x.most, y.most),
	}
	if whole.least < infinite {
		whole.least = min(whole.least, 1<<20)
	}
	if whole.most > 1<<20 {
		whole.most = infinite
	}
	return whole
}

func ruleOf(g api.Grammar, name string) int {
	return slices.IndexFunc(g.Rules, func(x api.Rule) bool { return x.Name == name })
}

// comesBack: to which rules each one comes, through more and more rules; and so, whether to itself.
func comesBack(g api.Grammar) []bool {
	square := make([][]bool, len(g.Rules))
	for r, x := range g.Rules {
		square[r] = make([]bool, len(g.Rules))
		for _, n := range x.Body {
			if n.Op == api.PCall {
				square[r][ruleOf(g, n.Text)] = true
			}
		}
	}
	back := make([]bool, len(g.Rules))
	for via := range square {
		for from := range square {
			if !square[from][via] {
				continue
			}
			for to := range square {
				square[from][to] = square[from][to] || square[via][to]
			}
		}
	}
	for r := range square {
		back[r] = square[r][r]
	}
	return back
}

// A model tells a grammar's rules.
type model func(name string) tale

// byOpenRules goes into each rule that is called; one that is open already has nothing to tell there that it could not tell without being called again.
func byOpenRules(g api.Grammar) model {
	back := comesBack(g)
	var open []int
	var of model
	of = func(name string) tale {
		r := ruleOf(g, name)
		if slices.Contains(open, r) {
			return tale{least: infinite, most: infinite}
		}
		open = append(open, r)
		x := taleOf(g.Rules[r].Body, of)
		open = open[:len(open)-1]
		if back[r] {
			x.most = infinite
		}
		return x
	}
	return of
}

// byRounds reckons all rules anew by what they were, one round more than there are rules.
func byRounds(g api.Grammar) model {
	back := comesBack(g)
	now := make([]tale, len(g.Rules))
	numbers := map[string]int{}
	for r, x := range g.Rules {
		now[r] = tale{least: infinite, most: infinite}
		numbers[x.Name] = r
	}
	of := func(name string) tale { return now[numbers[name]] }
	for range len(g.Rules) + 1 {
		next := make([]tale, len(g.Rules))
		for r, x := range g.Rules {
			next[r] = taleOf(x.Body, of)
			if back[r] {
				next[r].most = infinite
			}
		}
		copy(now, next)
	}
	return of
}

// asModel holds all three calls against a model: of each rule, of each part of its pattern, and of its pattern by itself.
func asModel(t *testing.T, g api.Grammar, m model) {
	t.Helper()
	l, e := empty.Rules(g)
	if e != api.OK || len(l) != len(g.Rules) {
		t.Fatalf("Rules(%v): %v, %v", g, l, e)
	}
	for r, x := range g.Rules {
		if want := m(x.Name).known(); l[r] != want {
			t.Fatalf("Rules(%v) of %d: %s, want %s", g, r, told(l[r]), told(want))
		}
		parts, e := empty.Parts(g, r)
		if e != api.OK || len(parts) != len(x.Body) {
			t.Fatalf("Parts(%v, %d): %v, %v", g, r, parts, e)
		}
		for at := range x.Body {
			part, _ := tree.Part(x.Body, at)
			want := taleOf(part, m).known()
			if parts[at] != want {
				t.Fatalf("Parts(%v, %d) at %d: %s, want %s", g, r, at, told(parts[at]), told(want))
			}
			if got, e := empty.Of(g, part); got != want || e != api.OK {
				t.Fatalf("Of(%v, %v): %s, %v, want %s", g, part, told(got), e, told(want))
			}
		}
	}
}

// told is what is known in short: n (Nullable), f (CanFail) or - (neither), then the lengths.
func told(x api.Emptiness) string {
	flags, least, most := "", strconv.Itoa(x.Least), strconv.Itoa(x.Most)
	if x.Nullable {
		flags = "n"
	}
	if x.CanFail {
		flags += "f"
	}
	if flags == "" {
		flags = "-"
	}
	if x.Least == -1 {
		least = "none"
	}
	if x.Most == -1 {
		most = "many"
	}
	return flags + " " + least + " " + most
}

func op(k int) api.Node                           { return api.Node{Op: k} }
func counted(k, n int) api.Node                   { return api.Node{Op: k, N: n} }
func lit(s string) api.Node                       { return api.Node{Op: api.PText, Text: s} }
func call(s string) api.Node                      { return api.Node{Op: api.PCall, Text: s} }
func list(l ...api.Node) api.Pattern              { return l }
func rule(name string, body ...api.Node) api.Rule { return api.Rule{Name: name, Body: body} }
func grammar(l ...api.Rule) api.Grammar           { return api.Grammar{Rules: l} }
func times(s string, n int) string                { return strings.Repeat(s, n) }
func nameOf(r int) string                         { return "r" + strconv.Itoa(r) }

func tower(n int, above, under api.Node) api.Pattern {
	return append(list(under), slices.Repeat(list(above), n)...)
}

// A row of n parts and a first one, put together from the left: 2n + 1 nodes.
func row(kind, n int, part api.Node) api.Pattern {
	p := list(part)
	for range n {
		p = append(p, part, op(kind))
	}
	return p
}

func read(t *testing.T, text string) api.Grammar {
	t.Helper()
	g, f := notation.Parse(text)
	if f != (api.Fault{}) {
		t.Fatal(text, f)
	}
	return g
}

func readPattern(t *testing.T, text string) api.Pattern {
	t.Helper()
	p, f := notation.Pattern(text)
	if f != (api.Fault{}) {
		t.Fatal(text, f)
	}
	return p
}

// Numbers without any order in them, the same ones each time.
type scramble uint64

func newScramble() *scramble {
	x := scramble(88172645463325252)
	return &x
}

func (x *scramble) below(n int) int {
	*x ^= *x << 13
	*x ^= *x >> 7
	*x ^= *x << 17
	return int(uint64(*x) >> 11 % uint64(n))
}

// A right node of a kind; a count is below few, or now and then the greatest one where few allows it.
func (x *scramble) node(kind, few int, names []string) api.Node {
	n := op(kind)
	switch kind {
	case api.PText:
		n.Text = []string{"a", "b", "ab", "ba", "aab"}[x.below(5)]
	case api.PCall:
		n.Text = names[x.below(len(names))]
	case api.PGroup, api.PString:
		n.Text = []string{"", "k"}[x.below(2)]
	case api.PSet:
		n.Set = api.Set{0, uint64(x.below(8))}
	case api.PTimes, api.PLeast, api.PMost, api.PPick:
		n.N = x.below(few)
		if few > 50 && x.below(2) == 0 {
			n.N = x.below(4)
		}
	}
	return n
}

// A right pattern of about so many nodes at most.
func (x *scramble) pattern(size, few int, names []string) api.Pattern {
	if size < 2 {
		leaves := []int{api.PText, api.PText, api.PEmpty, api.PFail, api.PAny, api.PSet, api.PPlace, api.PCall, api.PCall, api.PCall}
		return list(x.node(leaves[x.below(len(leaves))], few, names))
	}
	kind := api.PSeq + x.below(17)
	if x.below(2) == 0 {
		kind = api.PSeq + x.below(2)
	}
	switch tree.Arity(kind) {
	case 0:
		return list(x.node(kind, few, names))
	case 1:
		return append(x.pattern(size-1, few, names), x.node(kind, few, names))
	}
	first := x.below(size)
	return append(append(x.pattern(first, few, names), x.pattern(size-1-first, few, names)...), x.node(kind, few, names))
}

// A right grammar of n rules; each one calls a few of them.
func (x *scramble) grammar(n, size, few int) api.Grammar {
	var names []string
	for r := range n {
		names = append(names, string([]byte{byte('a' + r*7%26)})+strconv.Itoa(r*37%211))
	}
	var g api.Grammar
	for _, name := range names {
		at := x.below(n)
		g.Rules = append(g.Rules, rule(name, x.pattern(1+x.below(size), few, names[at:min(n, at+3)])...))
	}
	return g
}

func (x *scramble) order(n int) []int {
	l := make([]int, n)
	for i := range l {
		l[i] = i
	}
	for i := range l {
		j := i + x.below(n-i)
		l[i], l[j] = l[j], l[i]
	}
	return l
}

func cloned(g api.Grammar) api.Grammar {
	var h api.Grammar
	for _, x := range g.Rules {
		h.Rules = append(h.Rules, api.Rule{Name: x.Name, Body: slices.Clone(x.Body)})
	}
	return h
}

func sameGrammar(a, b api.Grammar) bool {
	return slices.EqualFunc(a.Rules, b.Rules, func(x, y api.Rule) bool {
		return x.Name == y.Name && slices.Equal(x.Body, y.Body)
	})
}
