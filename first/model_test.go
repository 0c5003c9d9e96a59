package first_test

import (
	"fmt"
	"slices"
	"strconv"
	"strings"
	"testing"

	"harrow/api"
	"harrow/charset"
	"harrow/first"
	"harrow/notation"
	"harrow/show"
	"harrow/tree"
)

// The chapter, told otherwise than the package tells it: the table is told column by column; what can fail is told anew; which rules are Empty, or HeadFail, are lists that grow; and a Set is all bytes with which those rules begin to which a way leads through beginnings, without any rounds.

// A model is a right grammar, and the rules of which something is so.
type model struct {
	g                        api.Grammar
	canFail, empty, headFail []string
	sets                     map[string]api.Set
}

// A row is what the columns say of the part that ends with each node; sets are told by the bytes that stand there, and by the rules with which the part begins.
type row struct {
	canFail, empty, headFail []bool
	direct                   []api.Set
	begins                   [][]string
}

func modelOf(g api.Grammar) model {
	m := model{g: g, sets: map[string]api.Set{}}
	m.canFail = m.grown(func(m model, names []string) model { m.canFail = names; return m }, func(x row) []bool { return x.canFail })
	m.empty = m.grown(func(m model, names []string) model { m.empty = names; return m }, func(x row) []bool { return x.empty })
	m.headFail = m.grown(func(m model, names []string) model { m.headFail = names; return m }, func(x row) []bool { return x.headFail })
	direct, begins := map[string]api.Set{}, map[string][]string{}
	for _, x := range g.Rules {
		whole := m.rowOf(x.Body)
		last := len(x.Body) - 1
		direct[x.Name], begins[x.Name] = whole.direct[last], whole.begins[last]
	}
	for _, x := range g.Rules {
		come := []string{x.Name}
		var set api.Set
		for at := 0; at < len(come); at++ {
			set = both(set, direct[come[at]])
			for _, name := range begins[come[at]] {
				if !slices.Contains(come, name) {
					come = append(come, name)
				}
			}
		}
		m.sets[x.Name] = set
	}
	return m
}

// grown is the rules of which a column says that it is so: none at first, then those of which it is so because of these.
func (m model) grown(with func(model, []string) model, column func(row) []bool) []string {
	var names []string
	for size := -1; size < len(names); {
		size = len(names)
		for _, x := range m.g.Rules {
			l := column(with(m, names).rowOf(x.Body))
			if l[len(l)-1] && !slices.Contains(names, x.Name) {
				names = append(names, x.Name)
			}
		}
	}
	return names
}

// rowOf goes by where parts begin: a node's last part ends right ahead of it, the one ahead of that right ahead of where it begins.
func (m model) rowOf(p api.Pattern) row {
	var w row
	var begin []int
	for at, n := range p {
		var ends []int
		from := at
		for range tree.Arity(n.Op) {
			ends = append(ends, from-1)
			from = begin[from-1]
		}
		begin = append(begin, from)
		slices.Reverse(ends)
		w.canFail = append(w.canFail, m.canFailColumn(n, pick(w.canFail, ends)))
		w.empty = append(w.empty, m.emptyColumn(n, pick(w.empty, ends)))
		w.headFail = append(w.headFail, m.headFailColumn(n, pick(w.headFail, ends), pick(w.canFail, ends)))
		set, names := m.setColumn(n, pick(w.direct, ends), pick(w.begins, ends), pick(w.empty, ends))
		w.direct = append(w.direct, set)
		w.begins = append(w.begins, names)
	}
	return w
}

func pick[T any](l []T, at []int) [2]T {
	var picked [2]T
	for i, x := range at {
		picked[i] = l[x]
	}
	return picked
}

func (m model) canFailColumn(n api.Node, of [2]bool) bool {
	switch n.Op {
	case api.PEmpty, api.PPlace, api.PStar, api.POpt, api.PMost:
		return false
	case api.PFail, api.PAny, api.PText, api.PSet, api.PNot:
		return true
	case api.PCall:
		return slices.Contains(m.canFail, n.Text)
	case api.PSeq:
		return of[0] || of[1]
	case api.PChoice:
		return of[0] && of[1]
	case api.PTimes, api.PLeast:
		return n.N > 0 && of[0]
	}
	return of[0]
}

func (m model) emptyColumn(n api.Node, of [2]bool) bool {
	switch n.Op {
	case api.PEmpty, api.PPlace, api.PStar, api.POpt, api.PMost, api.PNot:
		return true
	case api.PFail, api.PAny, api.PText, api.PSet:
		return false
	case api.PCall:
		return slices.Contains(m.empty, n.Text)
	case api.PSeq:
		return of[0] && of[1]
	case api.PChoice:
		return of[0] || of[1]
	case api.PTimes, api.PLeast:
		return n.N == 0 || of[0]
	}
	return of[0]
}

func (m model) headFailColumn(n api.Node, of, canFail [2]bool) bool {
	switch n.Op {
	case api.PFail, api.PAny, api.PSet:
		return true
	case api.PText:
		return len(n.Text) < 2
	case api.PCall:
		return slices.Contains(m.headFail, n.Text)
	case api.PSeq:
		return of[0] && !canFail[1]
	case api.PChoice:
		return of[0] && of[1]
	case api.PTimes, api.PLeast:
		return n.N == 1 && of[0]
	case api.PPlus, api.PAnd, api.PSub, api.PGroup, api.PList, api.PSubst, api.PString, api.PPick:
		return of[0]
	}
	return false
}

func (m model) setColumn(n api.Node, of [2]api.Set, begins [2][]string, empty [2]bool) (api.Set, []string) {
	var set api.Set
	switch {
	case n.Op == api.PText:
		set[n.Text[0]/64] = 1 << (n.Text[0] % 64)
		return set, nil
	case n.Op == api.PAny:
		return api.Set{1<<64 - 1, 1<<64 - 1, 1<<64 - 1, 1<<64 - 1}, nil
	case n.Op == api.PSet:
		return n.Set, nil
	case n.Op == api.PCall:
		return set, []string{n.Text}
	case n.Op == api.PNot, n.N == 0 && (n.Op == api.PTimes || n.Op == api.PMost):
		return set, nil
	case n.Op == api.PChoice, n.Op == api.PSeq && empty[0]:
		names := slices.Concat(begins[0], begins[1])
		slices.Sort(names)
		return both(of[0], of[1]), slices.Compact(names)
	}
	return of[0], begins[0]
}

func both(x, y api.Set) api.Set {
	return api.Set{x[0] | y[0], x[1] | y[1], x[2] | y[2], x[3] | y[3]}
}

// parts is what the model says of each part of a right pattern that calls the grammar's rules.
func (m model) parts(p api.Pattern) []api.Firsts {
	w := m.rowOf(p)
	var l []api.Firsts
	for at := range p {
		set := w.direct[at]
		for _, name := range w.begins[at] {
			set = both(set, m.sets[name])
		}
		l = append(l, api.Firsts{Set: set, Empty: w.empty[at], HeadFail: w.headFail[at]})
	}
	return l
}

func (m model) whole(p api.Pattern) api.Firsts {
	l := m.parts(p)
	return l[len(l)-1]
}

func (m model) decided(p, q api.Pattern) bool {
	x, y := m.whole(p), m.whole(q)
	shared := uint64(0)
	for i := range x.Set {
		shared |= x.Set[i] & y.Set[i]
	}
	return !x.Empty && (x.HeadFail || !y.Empty && shared == 0)
}

// asModel holds Rules and Parts of a right grammar against the model, and Of each rule's pattern; and Decided, where a choice stands.
func asModel(t *testing.T, g api.Grammar) {
	t.Helper()
	m := modelOf(g)
	l, e := first.Rules(g)
	if e != api.OK || len(l) != len(g.Rules) {
		t.Fatalf("Rules(%s): %v, %v", text(g), l, e)
	}
	for r, x := range g.Rules {
		want := m.parts(x.Body)
		last := want[len(want)-1]
		if l[r] != last {
			t.Fatalf("Rules(%s) of %d: %s, want %s", text(g), r, told(l[r]), told(last))
		}
		if len(g.Rules) > 50 && r%33 > 0 { // it would take long to ask for all
			continue
		}
		if parts, e := first.Parts(g, r); !slices.Equal(parts, want) || e != api.OK {
			t.Fatalf("Parts(%s, %d): %v, %v, want %v", text(g), r, parts, e, want)
		}
		if y, e := first.Of(g, x.Body); y != last || e != api.OK {
			t.Fatalf("Of(%s, %d): %s, %v, want %s", text(g), r, told(y), e, told(last))
		}
		decidedAsModel(t, g, m, x.Body)
	}
}

// decidedAsModel asks for the two parts of a pattern's last node, if it has two.
func decidedAsModel(t *testing.T, g api.Grammar, m model, p api.Pattern) {
	t.Helper()
	n, one, other := cutParts(p)
	if tree.Arity(n.Op) < 2 {
		return
	}
	for _, c := range [][2]api.Pattern{{one, other}, {other, one}} {
		if is, e := first.Decided(g, c[0], c[1]); is != m.decided(c[0], c[1]) || e != api.OK {
			t.Fatalf("Decided(%s, %v, %v): %v, %v", text(g), c[0], c[1], is, e)
		}
	}
}

// cutParts takes a pattern's last node away, and cuts the rest into the node's parts: from the end back, till none is missing.
func cutParts(p api.Pattern) (n api.Node, one, other api.Pattern) {
	n = p[len(p)-1]
	rest := p[:len(p)-1]
	missing, at := 1, len(rest)
	for at > 0 && missing > 0 {
		at--
		missing += tree.Arity(rest[at].Op) - 1
	}
	if tree.Arity(n.Op) == 2 {
		return n, rest[:at], rest[at:]
	}
	return n, rest, nil
}

// told is what is known in short: the Set as a class text, then e (Empty), h (HeadFail) or - (neither).
func told(x api.Firsts) string {
	flags := ""
	if x.Empty {
		flags = "e"
	}
	if x.HeadFail {
		flags += "h"
	}
	if flags == "" {
		flags = "-"
	}
	return charset.Show(x.Set) + " " + flags
}

// text is a grammar in the notation, as far as it is short.
func text(g api.Grammar) string {
	s, e := show.Grammar(g)
	if e != api.OK {
		s = fmt.Sprint(g)
	}
	return s[:min(len(s), 400)]
}

func op(k int) api.Node                           { return api.Node{Op: k} }
func counted(k, n int) api.Node                   { return api.Node{Op: k, N: n} }
func worded(k int, s string) api.Node             { return api.Node{Op: k, Text: s} }
func lit(s string) api.Node                       { return worded(api.PText, s) }
func call(s string) api.Node                      { return worded(api.PCall, s) }
func set(s api.Set) api.Node                      { return api.Node{Op: api.PSet, Set: s} }
func list(l ...api.Node) api.Pattern              { return l }
func rule(name string, body ...api.Node) api.Rule { return api.Rule{Name: name, Body: body} }
func grammar(l ...api.Rule) api.Grammar           { return api.Grammar{Rules: l} }
func times(s string, n int) string                { return strings.Repeat(s, n) }
func nameOf(r int) string                         { return "r" + strconv.Itoa(r) }

func tower(n int, above, under api.Node) api.Pattern {
	return append(list(under), slices.Repeat(list(above), n)...)
}

// A line of n parts and a first one, put together from the left: 2n + 1 nodes.
func line(kind, n int, part api.Node) api.Pattern {
	p := list(part)
	for range n {
		p = append(p, part, op(kind))
	}
	return p
}

func read(t *testing.T, text string) api.Grammar {
	t.Helper()
	g, f := notation.Parse(text)
	if f != (api.Fault{}) {
		t.Fatal(text, f)
	}
	return g
}

func readPattern(t *testing.T, text string) api.Pattern {
	t.Helper()
	p, f := notation.Pattern(text)
	if f != (api.Fault{}) {
		t.Fatal(text, f)
	}
	return p
}

// Numbers without any order in them, the same ones each time.
type scramble uint64

func newScramble() *scramble {
	x := scramble(88172645463325252)
	return &x
}

func (x *scramble) below(n int) int {
	*x ^= *x << 13
	*x ^= *x >> 7
	*x ^= *x << 17
	return int(uint64(*x) >> 11 % uint64(n))
}

func (x *scramble) node(kind int, names []string) api.Node {
	n := op(kind)
	switch kind {
	case api.PText:
		n.Text = []string{"a", "b", "c", "ab", "ba", "ca"}[x.below(6)]
	case api.PCall:
		n.Text = names[x.below(len(names))]
	case api.PGroup, api.PString:
		n.Text = []string{"", "k"}[x.below(2)]
	case api.PSet:
		n.Set = api.Set{0, uint64(2*x.below(8)) << 32}
	case api.PTimes, api.PLeast, api.PMost, api.PPick:
		n.N = []int{0, 1, 1, 2, 3}[x.below(5)]
	}
	return n
}

// A right pattern of about so many nodes at most.
func (x *scramble) pattern(size int, names []string) api.Pattern {
	if size < 2 {
		leaves := []int{api.PText, api.PText, api.PText, api.PEmpty, api.PFail, api.PAny, api.PSet, api.PSet, api.PPlace, api.PCall, api.PCall, api.PCall}
		return list(x.node(leaves[x.below(len(leaves))], names))
	}
	kind := api.PSeq + x.below(17)
	if x.below(2) == 0 {
		kind = api.PSeq + x.below(2)
	}
	switch tree.Arity(kind) {
	case 0:
		return list(x.node(kind, names))
	case 1:
		return append(x.pattern(size-1, names), x.node(kind, names))
	}
	first := x.below(size)
	return append(append(x.pattern(first, names), x.pattern(size-1-first, names)...), x.node(kind, names))
}

// A right grammar of n rules; each one calls a few of them.
func (x *scramble) grammar(n, size int) api.Grammar {
	var names []string
	for r := range n {
		names = append(names, string([]byte{byte('a' + r*7%26)})+strconv.Itoa(r*37%211))
	}
	var g api.Grammar
	for _, name := range names {
		at := x.below(n)
		g.Rules = append(g.Rules, rule(name, x.pattern(1+x.below(size), names[at:min(n, at+3)])...))
	}
	return g
}

func (x *scramble) order(n int) []int {
	l := make([]int, n)
	for i := range l {
		l[i] = i
	}
	for i := range l {
		j := i + x.below(n-i)
		l[i], l[j] = l[j], l[i]
	}
	return l
}
