package packrat_test

import (
	"cmp"
	"fmt"
	"slices"
	"strconv"
	"strings"
	"testing"

	"harrow/api"
	"harrow/ford"
	"harrow/notation"
	"harrow/show"
	"harrow/tree"
)

// A run with a table, told otherwise than the package tells it: first all that a walk without a table tries is put down, part by part; then what is tried within a rule that was tried at that place already is struck out. What is left is the run: its length says how many steps there are, its parts how deep it goes, its rules what the rows are.

// A try is a part that was tried: which one, where, where it went to (-1: it failed), within how many others, and whether it is a rule's whole pattern.
type try struct {
	api.Row
	within  int
	isWhole bool
}

// A model puts down all tries in the order in which they begin; it gives up where there are too many of them, or too many within one another.
type model struct {
	g       api.Grammar
	subject string
	tries   []try
	isOver  bool
}

const (
	mostTries = 1 << 12
	mostOpen  = 1 << 10
)

// whole tries a rule's pattern.
func (m *model) whole(r, at, within int) int {
	return m.part(r, m.g.Rules[r].Body, at, within, true)
}

func (m *model) part(r int, p api.Pattern, at, within int, isWhole bool) int {
	if m.isOver = m.isOver || len(m.tries) == mostTries || within == mostOpen; m.isOver {
		return -1
	}
	number := len(m.tries)
	m.tries = append(m.tries, try{Row: api.Row{Rule: r, At: at}, within: within, isWhole: isWhole})
	end := m.relation(r, p, at, within+1)
	m.tries[number].End = end
	return end
}

func (m *model) relation(r int, p api.Pattern, at, within int) int {
	n, one, other := cutParts(p)
	firstPart := func(i int) int { return m.part(r, one, i, within, false) }
	secondPart := func(i int) int { return m.part(r, other, i, within, false) }
	switch n.Op {
	case api.PEmpty, api.PFail, api.PAny, api.PText, api.PSet, api.PPlace:
		return takes(n, m.subject, at)
	case api.PCall:
		r := slices.IndexFunc(m.g.Rules, func(x api.Rule) bool { return x.Name == n.Text })
		return m.whole(r, at, within)
	case api.PSeq:
		if between := firstPart(at); between >= 0 {
			return secondPart(between)
		}
		return -1
	case api.PChoice:
		if end := firstPart(at); end >= 0 {
			return end
		}
		return secondPart(at)
	case api.PAnd:
		return min(firstPart(at), at)
	case api.PNot:
		if firstPart(at) >= 0 {
			return -1
		}
		return at
	case api.PStar, api.PPlus, api.POpt, api.PTimes, api.PLeast, api.PMost:
		return again(n, firstPart, 0, at)
	}
	return firstPart(at)
}

// takes is where a node without parts goes to.
func takes(n api.Node, subject string, at int) int {
	rest := subject[at:]
	switch {
	case n.Op == api.PEmpty || n.Op == api.PPlace:
		return at
	case n.Op == api.PAny && len(rest) > 0:
		return at + 1
	case n.Op == api.PText && len(rest) >= len(n.Text) && rest[:len(n.Text)] == n.Text:
		return at + len(n.Text)
	case n.Op == api.PSet && len(rest) > 0 && n.Set[rest[0]>>6]&(1<<(rest[0]&63)) != 0:
		return at + 1
	}
	return -1
}

// again is a repetition that has matched so many times already, and is at a place.
func again(n api.Node, part func(int) int, times, at int) int {
	isEnough := n.Op == api.POpt && times == 1 || (n.Op == api.PTimes || n.Op == api.PMost) && times == n.N
	if isEnough {
		return at
	}
	if end := part(at); end >= 0 {
		return again(n, part, times+1, end)
	}
	isMissing := n.Op == api.PPlus && times == 0 || (n.Op == api.PTimes || n.Op == api.PLeast) && times < n.N
	if isMissing {
		return -1
	}
	return at
}

// tries is all that a walk of a rule at a place tries; nothing and false where that would be too much.
func tries(g api.Grammar, r int, s string, at int) ([]try, bool) {
	m := model{g: g, subject: s}
	m.whole(r, at, 0)
	return m.tries, !m.isOver
}

// struck is what is left of a walk's tries, once each rule that was tried at that place already is struck out with all that it tries.
func struck(walk []try) []try {
	seen := map[api.Row]bool{}
	var left []try
	deep := -1 // within how many others the rule is that is being struck out
	for _, x := range walk {
		if deep >= 0 && x.within > deep {
			continue
		}
		deep = -1
		if x.isWhole && seen[x.Row] {
			deep = x.within
			continue
		}
		seen[x.Row] = seen[x.Row] || x.isWhole
		left = append(left, x)
	}
	return left
}

// own is what is left of a walk's tries, once all rules but the first one are struck out with all that they try.
func own(walk []try) []try {
	var left []try
	deep := len(walk)
	for _, x := range walk {
		if x.within > deep {
			continue
		}
		deep = len(walk)
		if x.isWhole && x.within > 0 {
			deep = x.within
			continue
		}
		left = append(left, x)
	}
	return left
}

// runOf is what Run is to say when it has steps enough.
func runOf(g api.Grammar, r int, s string, at int) (api.Table, bool) {
	walk, is := tries(g, r, s, at)
	if !is {
		return api.Table{}, false
	}
	left := struck(walk)
	x := api.Table{Kind: api.Matched, End: left[0].End, Steps: len(left)}
	if x.End < 0 {
		x.Kind, x.End = api.Failed, 0
	}
	for _, y := range left {
		if y.isWhole {
			x.Rows = append(x.Rows, y.Row)
		}
	}
	slices.SortFunc(x.Rows, func(a, b api.Row) int { return cmp.Or(cmp.Compare(a.Rule, b.Rule), cmp.Compare(a.At, b.At)) })
	return x, true
}

// fillOf is what Fill is to say when it has steps enough.
func fillOf(g api.Grammar, s string) (ends [][]int, steps int, is bool) {
	for r := range g.Rules {
		var l []int
		for at := range len(s) + 1 {
			walk, is := tries(g, r, s, at)
			if !is {
				return nil, 0, false
			}
			l = append(l, walk[0].End)
			steps += len(own(walk))
		}
		ends = append(ends, l)
	}
	return ends, steps, true
}

func sameTable(x, y api.Table) bool {
	return x.Kind == y.Kind && x.End == y.End && x.Steps == y.Steps && slices.Equal(x.Rows, y.Rows)
}

func sameLists(x, y [][]int) bool { return slices.EqualFunc(x, y, slices.Equal[[]int]) }

// told is an answer in short: where it goes to, in how many steps, and each row: the rule's name, the place, where it goes to from there.
func told(g api.Grammar, x api.Table) string {
	words := fmt.Sprintf("to %d in %d:", x.End, x.Steps)
	if x.Kind == api.Failed && x.End == 0 {
		words = fmt.Sprintf("fails in %d:", x.Steps)
	} else if x.Kind != api.Matched {
		return fmt.Sprint(x)
	}
	for _, row := range x.Rows {
		words += fmt.Sprintf(" %s%d", g.Rules[row.Rule].Name, row.At)
		if row.End == -1 {
			words += "!"
		} else {
			words += fmt.Sprintf(">%d", row.End)
		}
	}
	return words
}

// cutParts takes a pattern's last node away, and cuts the rest into the node's parts: from the end back, till none is missing.
func cutParts(p api.Pattern) (n api.Node, one, other api.Pattern) {
	n = p[len(p)-1]
	rest := p[:len(p)-1]
	missing, at := 1, len(rest)
	for at > 0 && missing > 0 {
		at--
		missing += tree.Arity(rest[at].Op) - 1
	}
	if tree.Arity(n.Op) == 2 {
		return n, rest[:at], rest[at:]
	}
	return n, rest, nil
}

// text is a grammar in the notation, as far as it is short.
func text(g api.Grammar) string {
	s, e := show.Grammar(g)
	if e != api.OK {
		s = fmt.Sprint(g)
	}
	return s[:min(len(s), 400)]
}

// brief is as much of anything as one can read.
func brief(x any) string {
	s := fmt.Sprint(x)
	return s[:min(len(s), 500)]
}

func op(k int) api.Node                           { return api.Node{Op: k} }
func counted(k, n int) api.Node                   { return api.Node{Op: k, N: n} }
func worded(k int, s string) api.Node             { return api.Node{Op: k, Text: s} }
func lit(s string) api.Node                       { return worded(api.PText, s) }
func call(s string) api.Node                      { return worded(api.PCall, s) }
func set(s api.Set) api.Node                      { return api.Node{Op: api.PSet, Set: s} }
func list(l ...api.Node) api.Pattern              { return l }
func rule(name string, body ...api.Node) api.Rule { return api.Rule{Name: name, Body: body} }
func grammar(l ...api.Rule) api.Grammar           { return api.Grammar{Rules: l} }
func alone(body ...api.Node) api.Grammar          { return grammar(rule("", body...)) }
func times(s string, n int) string                { return strings.Repeat(s, n) }
func nameOf(r int) string                         { return "r" + strconv.Itoa(r) }

func tower(n int, above, under api.Node) api.Pattern {
	return append(list(under), slices.Repeat(list(above), n)...)
}

// A line of n parts and a first one, put together from the left: 2n + 1 nodes.
func line(kind, n int, part api.Node) api.Pattern {
	p := list(part)
	for range n {
		p = append(p, part, op(kind))
	}
	return p
}

func read(t *testing.T, text string) api.Grammar {
	t.Helper()
	g, f := notation.Parse(text)
	if f != (api.Fault{}) {
		t.Fatal(text, f)
	}
	return g
}

// Numbers without any order in them, the same ones each time.
type scramble uint64

func newScramble() *scramble {
	x := scramble(88172645463325252)
	return &x
}

func (x *scramble) below(n int) int {
	*x ^= *x << 13
	*x ^= *x >> 7
	*x ^= *x << 17
	return int(uint64(*x) >> 11 % uint64(n))
}

func (x *scramble) node(kind int, names []string) api.Node {
	n := op(kind)
	switch kind {
	case api.PText:
		n.Text = []string{"a", "b", "c", "ab", "ba", "ca"}[x.below(6)]
	case api.PCall:
		n.Text = names[x.below(len(names))]
	case api.PGroup, api.PString:
		n.Text = []string{"", "k"}[x.below(2)]
	case api.PSet:
		n.Set = api.Set{0, uint64(2*x.below(8)) << 32}
	case api.PTimes, api.PLeast, api.PMost, api.PPick:
		n.N = []int{0, 1, 1, 2, 3}[x.below(5)]
	}
	return n
}

// A right pattern of about so many nodes at most.
func (x *scramble) pattern(size int, names []string) api.Pattern {
	if size < 2 {
		leaves := []int{api.PText, api.PText, api.PText, api.PEmpty, api.PFail, api.PAny, api.PSet, api.PSet, api.PPlace, api.PCall, api.PCall, api.PCall}
		return list(x.node(leaves[x.below(len(leaves))], names))
	}
	kind := api.PSeq + x.below(17)
	if x.below(2) == 0 {
		kind = api.PSeq + x.below(2)
	}
	switch tree.Arity(kind) {
	case 0:
		return list(x.node(kind, names))
	case 1:
		return append(x.pattern(size-1, names), x.node(kind, names))
	}
	first := x.below(size)
	return append(append(x.pattern(first, names), x.pattern(size-1-first, names)...), x.node(kind, names))
}

// A right grammar of n rules; each one calls a few of them.
func (x *scramble) grammar(n, size int) api.Grammar {
	var names []string
	for r := range n {
		names = append(names, string([]byte{byte('a' + r*7%26)})+strconv.Itoa(r*37%211))
	}
	var g api.Grammar
	for _, name := range names {
		at := x.below(n)
		g.Rules = append(g.Rules, rule(name, x.pattern(1+x.below(size), names[at:min(n, at+3)])...))
	}
	return g
}

func (x *scramble) wellFormed(n, size int) api.Grammar {
	for {
		g := x.grammar(n, size)
		if _, e := ford.Check(g); e == api.OK {
			return g
		}
	}
}

func (x *scramble) order(n int) []int {
	l := make([]int, n)
	for i := range l {
		l[i] = i
	}
	for i := range l {
		j := i + x.below(n-i)
		l[i], l[j] = l[j], l[i]
	}
	return l
}

// A subject of bytes that the scrambled patterns speak of.
func (x *scramble) subject(size int) string {
	var s []byte
	for range x.below(size + 1) {
		s = append(s, "aaabbc"[x.below(6)])
	}
	return string(s)
}
