package rewrite_test

import (
	"fmt"
	"slices"
	"strconv"
	"strings"
	"testing"

	"harrow/api"
	"harrow/ford"
	"harrow/notation"
	"harrow/rewrite"
	"harrow/show"
	"harrow/tree"
)

// The chapter's table, told otherwise than the package tells it: each line is read as a form that is held against the part that ends with a node, on the list of nodes itself. x, y and z are any parts, r and s sure ones, b and c byte patterns, t and u texts, k a part in which something captures; none and all are the sets of no byte and of all.
const ruleLines = `
1 none = fail
1 all = any
2 times0(x) = empty
2 most0(x) = empty
3 times1(x) = x
3 most1(x) = opt(x)
3 least0(x) = star(x)
3 least1(x) = plus(x)
4 seq(empty,x) = x
4 seq(x,empty) = x
5 seq(fail,x) = fail
5 seq(x,fail) = fail
6 choice(fail,x) = x
6 choice(x,fail) = x
7 choice(s,y) = s
8 choice(b,c) = union
8 choice(choice(z,b),c) = choice(z,union)
9 seq(t,u) = both
9 seq(seq(z,t),u) = seq(z,both)
10 and(and(x)) = and(x)
10 and(not(x)) = not(x)
10 not(not(x)) = and(x)
10 not(and(x)) = not(x)
11 and(empty) = empty
11 not(fail) = empty
11 and(fail) = fail
11 not(empty) = fail
12 and(k) = and(bare)
12 not(k) = not(bare)
13 star(fail) = empty
13 opt(fail) = empty
13 plus(fail) = fail
14 opt(s) = s
15 star(plus(x)) = star(x)
15 plus(plus(x)) = plus(x)
15 opt(plus(x)) = star(x)
16 seq(x,seq(y,z)) = seq(seq(x,y),z)
16 choice(x,choice(y,z)) = choice(choice(x,y),z)
`

// A form without a number stands for each.
const sureForms = "empty star(x) opt(x) most(x) place times0(x) least0(x) seq(r,s) choice(s,x) choice(x,s) not(fail) plus(s) times(s) least(s) and(s) sub(s) group(s) list(s) subst(s) string(s) pick(s)"

const kindWords = "empty fail any text set call seq choice star plus opt and not times least most place sub group list subst string pick"

// A form is a node's kind, and its parts, or a word that stands for a part.
type form struct {
	word  string
	kind  int // 0: it stands for a part
	n     int // -1: any
	parts []form
}

type line struct {
	rule          int
	part, becomes form
}

type model struct {
	lines []line
	sure  []form
}

func newModel() *model {
	m := &model{}
	for _, s := range strings.Fields(sureForms) {
		f, _ := readForm(s)
		m.sure = append(m.sure, f)
	}
	for _, s := range strings.Split(strings.TrimSpace(ruleLines), "\n") {
		words := strings.Fields(s)
		rule, _ := strconv.Atoi(words[0])
		part, _ := readForm(words[1])
		becomes, _ := readForm(words[3])
		m.lines = append(m.lines, line{rule, part, becomes})
	}
	return m
}

// readForm reads a form at a text's beginning, and tells what is left of the text.
func readForm(s string) (form, string) {
	end := strings.IndexAny(s+",", "(),")
	f := form{word: strings.TrimRight(s[:end], "01"), n: -1}
	if digits := s[len(f.word):end]; digits != "" {
		f.n, _ = strconv.Atoi(digits)
	}
	f.kind = 1 + slices.Index(strings.Fields(kindWords), f.word)
	s = s[end:]
	for s != "" && (s[0] == '(' || s[0] == ',' && len(f.parts) == 1) {
		var part form
		part, s = readForm(s[1:])
		f.parts = append(f.parts, part)
	}
	if len(f.parts) > 0 {
		s = s[1:] // a parenthesis
	}
	return f, s
}

// fits says whether the part p is as f says, and binds its words to what they stand for.
func (m *model) fits(f form, p api.Pattern, bound map[string]api.Pattern) bool {
	n, one, other := cutParts(p)
	bound[f.word] = p
	switch f.word {
	case "none":
		return n.Op == api.PSet && n.Set == api.Set{}
	case "all":
		return n.Op == api.PSet && members(n) == times("x", 256)
	case "x", "y", "z":
		return true
	case "r", "s":
		return m.isSure(p)
	case "b", "c":
		return members(n) != times("-", 256) || n.Op == api.PSet
	case "t", "u":
		// A u stands behind a t.
		return n.Op == api.PText && (f.word == "t" || len(bound["t"][0].Text+n.Text) <= 255)
	case "k":
		return slices.ContainsFunc(p, captures)
	}
	if n.Op != f.kind || f.n >= 0 && n.N != f.n {
		return false
	}
	return len(f.parts) == 0 || m.fits(f.parts[0], one, bound) && (len(f.parts) == 1 || m.fits(f.parts[1], other, bound))
}

func (m *model) isSure(p api.Pattern) bool {
	return slices.ContainsFunc(m.sure, func(f form) bool { return m.fits(f, p, map[string]api.Pattern{}) })
}

// members is a byte pattern's set, byte by byte: x, if it is in it.
func members(n api.Node) string {
	var s []byte
	for b := range 256 {
		if n.Op == api.PAny || n.Op == api.PText && n.Text == string([]byte{byte(b)}) || n.Op == api.PSet && n.Set[b/64]&(1<<(b%64)) != 0 {
			s = append(s, 'x')
		} else {
			s = append(s, '-')
		}
	}
	return string(s)
}

func captures(n api.Node) bool { return n.Op >= api.PPlace }

// bare leaves away what captures, node by node: on the list of nodes a part is left standing where its node goes.
func bare(p api.Pattern) api.Pattern {
	var q api.Pattern
	for _, n := range p {
		switch {
		case n.Op == api.PPlace:
			q = append(q, op(api.PEmpty))
		case !captures(n):
			q = append(q, n)
		}
	}
	return q
}

func built(f form, bound map[string]api.Pattern) api.Pattern {
	switch {
	case f.word == "union":
		return list(set(setOf(members(bound["b"][0]), members(bound["c"][0]))))
	case f.word == "both":
		return list(lit(bound["t"][0].Text + bound["u"][0].Text))
	case f.word == "bare":
		return bare(bound["k"])
	case f.kind == 0:
		return bound[f.word]
	}
	var p api.Pattern
	for _, part := range f.parts {
		p = append(p, built(part, bound)...)
	}
	return append(p, op(f.kind))
}

func setOf(one, other string) api.Set {
	var s api.Set
	for b := range 256 {
		if one[b] == 'x' || other[b] == 'x' {
			s[b/64] |= 1 << (b % 64)
		}
	}
	return s
}

// once is what Once is to say of a right pattern.
func (m *model) once(p api.Pattern) (api.Pattern, int) {
	for at := range p {
		begin := beginOf(p, at)
		for _, l := range m.lines {
			bound := map[string]api.Pattern{}
			if m.fits(l.part, p[begin:at+1], bound) {
				return slices.Concat(p[:begin], built(l.becomes, bound), p[at+1:]), l.rule
			}
		}
	}
	return p, 0
}

// simple is what Simple and Rules are to say, and all patterns on the way.
func (m *model) simple(p api.Pattern) (q api.Pattern, counts []int, way []api.Pattern) {
	counts = make([]int, 16)
	for {
		way = append(way, p)
		next, rule := m.once(p)
		if rule == 0 {
			return p, counts, way
		}
		counts[rule-1]++
		p = next
	}
}

// beginOf goes back from a part's end till no node is missing.
func beginOf(p api.Pattern, at int) int {
	for missing := tree.Arity(p[at].Op); missing > 0; {
		at--
		missing += tree.Arity(p[at].Op) - 1
	}
	return at
}

// cutParts takes a pattern's last node away, and cuts the rest into the node's parts.
func cutParts(p api.Pattern) (n api.Node, one, other api.Pattern) {
	n, rest := p[len(p)-1], p[:len(p)-1]
	if tree.Arity(n.Op) < 2 {
		return n, rest, nil
	}
	at := beginOf(rest, len(rest)-1)
	return n, rest[:at], rest[at:]
}

// text is a pattern in the notation, as far as it is short.
func text(p api.Pattern) string {
	s, e := show.Pattern(p)
	if e != api.OK {
		s = fmt.Sprint(p)
	}
	return s[:min(len(s), 300)]
}

// brief is as much of anything as one can read.
func brief(x any) string {
	s := fmt.Sprint(x)
	return s[:min(len(s), 500)]
}

// becomes: Once of p uses that rule, and tells that pattern.
func becomes(t *testing.T, p, want api.Pattern, rule int) {
	t.Helper()
	if q, r, e := rewrite.Once(p); !slices.Equal(q, want) || r != rule || e != api.OK {
		t.Errorf("Once of %s: %s by %d, %v, want %s by %d", text(p), text(q), r, e, text(want), rule)
	}
}

// stays: no rule can be used in p.
func stays(t *testing.T, p api.Pattern) {
	t.Helper()
	becomes(t, p, p, 0)
	simpler(t, p, p, make([]int, 16))
}

// simpler: Simple of p tells that pattern, and Rules those numbers.
func simpler(t *testing.T, p, want api.Pattern, counts []int) {
	t.Helper()
	if q, e := rewrite.Simple(p); !slices.Equal(q, want) || e != api.OK {
		t.Errorf("Simple of %s: %s, %v, want %s", text(p), text(q), e, text(want))
	}
	if l, e := rewrite.Rules(p); !slices.Equal(l, counts) || e != api.OK {
		t.Errorf("Rules of %s: %v, %v, want %v", text(p), l, e, counts)
	}
}

// asModel holds all three calls against the model.
func (m *model) asModel(t *testing.T, p api.Pattern) {
	t.Helper()
	q, counts, _ := m.simple(p)
	simpler(t, p, q, counts)
	next, rule := m.once(p)
	becomes(t, p, next, rule)
}

// used is the numbers of the rules that were used, as Rules tells them.
func used(numbers ...int) []int {
	l := make([]int, 16)
	for _, rule := range numbers {
		l[rule-1]++
	}
	return l
}

func op(k int) api.Node                           { return api.Node{Op: k} }
func counted(k, n int) api.Node                   { return api.Node{Op: k, N: n} }
func worded(k int, s string) api.Node             { return api.Node{Op: k, Text: s} }
func lit(s string) api.Node                       { return worded(api.PText, s) }
func call(s string) api.Node                      { return worded(api.PCall, s) }
func set(s api.Set) api.Node                      { return api.Node{Op: api.PSet, Set: s} }
func list(l ...api.Node) api.Pattern              { return l }
func rule(name string, body ...api.Node) api.Rule { return api.Rule{Name: name, Body: body} }
func grammar(l ...api.Rule) api.Grammar           { return api.Grammar{Rules: l} }
func times(s string, n int) string                { return strings.Repeat(s, n) }

func tower(n int, above, under api.Node) api.Pattern {
	return append(list(under), slices.Repeat(list(above), n)...)
}

// row is parts that are put together from the left.
func row(kind int, parts ...api.Pattern) api.Pattern {
	p := slices.Clone(parts[0])
	for _, x := range parts[1:] {
		p = append(append(p, x...), op(kind))
	}
	return p
}

// rowFromTheRight is parts that are put together from the right.
func rowFromTheRight(kind int, parts ...api.Pattern) api.Pattern {
	return append(slices.Concat(parts...), slices.Repeat(list(op(kind)), len(parts)-1)...)
}

func read(t *testing.T, s string) api.Pattern {
	t.Helper()
	p, f := notation.Pattern(s)
	if f != (api.Fault{}) {
		t.Fatal(s, f)
	}
	return p
}

func readGrammar(t *testing.T, s string) api.Grammar {
	t.Helper()
	g, f := notation.Parse(s)
	if f != (api.Fault{}) {
		t.Fatal(s, f)
	}
	return g
}

// Numbers without any order in them, the same ones each time.
type scramble uint64

func newScramble() *scramble {
	x := scramble(88172645463325252)
	return &x
}

func (x *scramble) below(n int) int {
	*x ^= *x << 13
	*x ^= *x >> 7
	*x ^= *x << 17
	return int(uint64(*x) >> 11 % uint64(n))
}

func (x *scramble) node(kind int, names []string) api.Node {
	n := op(kind)
	switch kind {
	case api.PText:
		n.Text = []string{"a", "b", "c", "ab", "ba", "ca"}[x.below(6)]
	case api.PCall:
		n.Text = names[x.below(len(names))]
	case api.PGroup, api.PString:
		n.Text = []string{"", "k"}[x.below(2)]
	case api.PSet:
		n.Set = []api.Set{{}, {1<<64 - 1, 1<<64 - 1, 1<<64 - 1, 1<<64 - 1}, {0, uint64(2*x.below(8)) << 32}}[max(0, x.below(6)-3)]
	case api.PTimes, api.PLeast, api.PMost, api.PPick:
		n.N = []int{0, 1, 1, 2, 3}[x.below(5)]
	}
	return n
}

// A right pattern of about so many nodes at most.
func (x *scramble) pattern(size int, names []string) api.Pattern {
	if size < 2 {
		leaves := []int{api.PText, api.PText, api.PText, api.PEmpty, api.PFail, api.PAny, api.PSet, api.PSet, api.PPlace, api.PCall, api.PCall}
		return list(x.node(leaves[x.below(len(leaves))], names))
	}
	kind := api.PSeq + x.below(17)
	if x.below(2) == 0 {
		kind = api.PSeq + x.below(2)
	}
	switch tree.Arity(kind) {
	case 0:
		return list(x.node(kind, names))
	case 1:
		return append(x.pattern(size-1, names), x.node(kind, names))
	}
	first := x.below(size)
	return append(append(x.pattern(first, names), x.pattern(size-1-first, names)...), x.node(kind, names))
}

// A right grammar of n rules; each one calls a few of them.
func (x *scramble) grammar(n, size int) api.Grammar {
	var names []string
	for r := range n {
		names = append(names, string([]byte{byte('a' + r*7%26)})+strconv.Itoa(r*37%211))
	}
	var g api.Grammar
	for _, name := range names {
		at := x.below(n)
		g.Rules = append(g.Rules, rule(name, x.pattern(1+x.below(size), names[at:min(n, at+3)])...))
	}
	return g
}

func (x *scramble) wellFormed(n, size int) api.Grammar {
	for {
		g := x.grammar(n, size)
		if _, e := ford.Check(g); e == api.OK {
			return g
		}
	}
}

// A subject of bytes that the scrambled patterns speak of.
func (x *scramble) subject(size int) string {
	var s []byte
	for range x.below(size + 1) {
		s = append(s, "aaabbc"[x.below(6)])
	}
	return string(s)
}
