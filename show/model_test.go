package show_test

import (
	"slices"
	"strconv"
	"strings"
	"testing"

	"harrow/api"
	"harrow/show"
	"harrow/token"
	"harrow/tree"
)

// The chapter, told otherwise than the package tells it: patterns are gone through from their ends backwards, and the table of texts stands as it is in the chapter.

// A line of the table: the text, in which @ and a digit is a part at that number, TEXT the Text, LITERAL the literal, CLASS the class, N the number; how strongly it holds; and the line in a tree.
type line struct {
	parts int
	text  string
	holds int
	tree  string
}

var table = map[int]line{
	api.PEmpty: {0, "%e", 4, "empty"}, api.PFail: {0, "%f", 4, "fail"}, api.PAny: {0, ".", 4, "any"}, api.PPlace: {0, "{}", 4, "place"},
	api.PText: {0, "LITERAL", 4, "text LITERAL"}, api.PSet: {0, "CLASS", 4, "set CLASS"}, api.PCall: {0, "TEXT", 4, "call TEXT"},
	api.PSub:   {1, "{@0}", 4, "sub"},
	api.PGroup: {1, "{:TEXT: @0 :}", 4, "group TEXT"},
	api.PList:  {1, "{| @0 |}", 4, "list"}, api.PSubst: {1, "{~ @0 ~}", 4, "subst"},
	api.PStar: {1, "@3*", 3, "star"}, api.PPlus: {1, "@3+", 3, "plus"}, api.POpt: {1, "@3?", 3, "opt"},
	api.PTimes: {1, "@3^N", 3, "times N"}, api.PLeast: {1, "@3^+N", 3, "least N"}, api.PMost: {1, "@3^-N", 3, "most N"},
	api.PString: {1, "@3 -> LITERAL", 3, "string LITERAL"}, api.PPick: {1, "@3 -> N", 3, "pick N"},
	api.PAnd: {1, "&@2", 2, "and"}, api.PNot: {1, "!@2", 2, "not"},
	api.PSeq:    {2, "@1 @2", 1, "seq"},
	api.PChoice: {2, "@0 / @1", 0, "choice"},
}

// Chapter 5 tells literals and classes.
func tokenText(x api.Token) string {
	s, e := token.Text([]api.Token{x})
	if e != api.OK {
		panic(e)
	}
	return s
}

// filled puts a node's fields into a text of the table. What is put in is not looked at again.
func filled(text string, n api.Node) string {
	if n.Op == api.PGroup && n.Text == "" {
		text = strings.TrimSuffix(strings.Replace(text, "TEXT:", "", 1), " TEXT")
	}
	return strings.NewReplacer(
		"LITERAL", tokenText(api.Token{Kind: api.TText, Text: n.Text}),
		"CLASS", tokenText(api.Token{Kind: api.TClass, Set: n.Set}),
		"TEXT", n.Text,
		"N", strconv.Itoa(n.N),
	).Replace(text)
}

// A told part: its texts, and how strongly the one in the notation holds.
type toldPart struct {
	text  string
	holds int
	lines []string
}

// backwards tells the part that ends with the list, and what stands ahead of it.
func backwards(p api.Pattern) (toldPart, api.Pattern) {
	n, rest := p[len(p)-1], p[:len(p)-1]
	row := table[n.Op]
	parts := make([]toldPart, row.parts)
	for i := row.parts - 1; i >= 0; i-- {
		parts[i], rest = backwards(rest)
	}
	told := toldPart{holds: row.holds, lines: []string{filled(row.tree, n)}}
	// Each part is laid behind the pieces ahead of its @, so that what it says is not searched itself.
	pieces := strings.Split(row.text, "@")
	told.text = filled(pieces[0], n)
	for i, x := range parts {
		at, piece := int(pieces[i+1][0]-'0'), pieces[i+1][1:]
		if x.holds < at {
			x.text = "(" + x.text + ")"
		}
		told.text += x.text + filled(piece, n)
		for _, l := range x.lines {
			told.lines = append(told.lines, "  "+l)
		}
	}
	return told, rest
}

func textOf(p api.Pattern) string {
	told, _ := backwards(p)
	return told.text
}

func treeOf(p api.Pattern) string {
	told, _ := backwards(p)
	return strings.Join(told.lines, "\n") + "\n"
}

func wanted(p api.Pattern, tell func(api.Pattern) string) (string, api.Errno) {
	if _, e := tree.Check(p); e != api.OK {
		return "", e
	}
	return fitting(tell(p))
}

func fitting(s string) (string, api.Errno) {
	if len(s) > 65536 {
		return "", 2
	}
	return s, 0
}

// Whether a name is one is asked of layer 5 here.
func wantedGrammar(g api.Grammar) (string, api.Errno) {
	if len(g.Rules) == 0 {
		return "", 3
	}
	if len(g.Rules) > 200 {
		return "", 2
	}
	text, nodes := "", 0
	for _, r := range g.Rules {
		l, f := token.Lex(r.Name)
		isName := f == api.Fault{} && len(l) == 1 && l[0].Kind == api.TName && l[0].Text == r.Name
		if !isName && (r.Name != "" || len(g.Rules) > 1) {
			return "", 6
		}
		if _, e := tree.Check(r.Body); e != api.OK {
			return "", e
		}
		if nodes += len(r.Body); nodes > 2048 {
			return "", 2
		}
		if isName {
			text += r.Name + " <- "
		}
		text += textOf(r.Body) + "\n"
	}
	return fitting(text)
}

func sameAsModel(t *testing.T, p api.Pattern) {
	t.Helper()
	s, e := show.Pattern(p)
	if want, we := wanted(p, textOf); s != want || e != we {
		t.Errorf("Pattern(%v): %s, %v, want %s, %v", brief(p), short(s), e, short(want), we)
	}
	s, e = show.Tree(p)
	if want, we := wanted(p, treeOf); s != want || e != we {
		t.Errorf("Tree(%v): %s, %v, want %s, %v", brief(p), short(s), e, short(want), we)
	}
}

func grammarAsModel(t *testing.T, g api.Grammar) {
	t.Helper()
	s, e := show.Grammar(g)
	if want, we := wantedGrammar(g); s != want || e != we {
		t.Errorf("Grammar of %d rules: %s, %v, want %s, %v", len(g.Rules), short(s), e, short(want), we)
	}
}

func short(text string) string {
	if len(text) > 300 {
		return strconv.Quote(text[:150]) + "..(" + strconv.Itoa(len(text)) + " bytes).." + strconv.Quote(text[len(text)-50:])
	}
	return strconv.Quote(text)
}

func brief(p api.Pattern) api.Pattern {
	return p[:min(len(p), 12)]
}

func op(k int) api.Node                 { return api.Node{Op: k} }
func lit(s string) api.Node             { return api.Node{Op: api.PText, Text: s} }
func call(s string) api.Node            { return api.Node{Op: api.PCall, Text: s} }
func group(s string) api.Node           { return api.Node{Op: api.PGroup, Text: s} }
func template(s string) api.Node        { return api.Node{Op: api.PString, Text: s} }
func number(k, n int) api.Node          { return api.Node{Op: k, N: n} }
func set(s api.Set) api.Node            { return api.Node{Op: api.PSet, Set: s} }
func list(l ...api.Node) api.Pattern    { return l }
func times(s string, n int) string      { return strings.Repeat(s, n) }
func grammar(l ...api.Rule) api.Grammar { return api.Grammar{Rules: l} }

func rule(name string, l ...api.Node) api.Rule {
	return api.Rule{Name: name, Body: l}
}

// above lays a node behind its parts.
func above(n api.Node, parts ...api.Pattern) api.Pattern {
	return append(slices.Concat(parts...), n)
}

// tower is a pattern with so many nodes of one part above it.
func tower(n int, node api.Node, bottom ...api.Node) api.Pattern {
	return append(slices.Clone(bottom), slices.Repeat(api.Pattern{node}, n)...)
}

// row puts a node and so many more of it together from the left.
func row(join int, n int, node api.Node) api.Pattern {
	p := api.Pattern{node}
	for range n {
		p = append(p, node, op(join))
	}
	return p
}

// rightRow puts them together from the right.
func rightRow(join int, n int, node api.Node) api.Pattern {
	return append(slices.Repeat(api.Pattern{node}, n+1), slices.Repeat(api.Pattern{op(join)}, n)...)
}

// A node of each kind, with something in each field that the kind has.
func nodeOf(kind int) api.Node {
	n := op(kind)
	switch kind {
	case api.PText:
		n.Text = "it's"
	case api.PSet:
		n.Set = api.Set{1 << 10, 0, 0, 1 << 63}
	case api.PCall:
		n.Text = "rule_1"
	case api.PGroup:
		n.Text = "k"
	case api.PString:
		n.Text = "<%1>"
	case api.PTimes, api.PLeast, api.PMost, api.PPick:
		n.N = 7
	}
	return n
}

func kindsWith(parts int) []int {
	var l []int
	for kind := api.PEmpty; kind <= api.PPick; kind++ {
		if table[kind].parts == parts {
			l = append(l, kind)
		}
	}
	return l
}

// A small pattern of each kind: its parts are a, and b, if it has two.
func smallOf(kind int) api.Pattern {
	return above(nodeOf(kind), []api.Pattern{{call("a")}, {call("b")}}[:table[kind].parts]...)
}

// Numbers without any order in them, the same ones each time.
type scramble uint64

func (x *scramble) below(n int) int {
	*x ^= *x << 13
	*x ^= *x >> 7
	*x ^= *x << 17
	return int(uint64(*x) >> 1 % uint64(n))
}

func newScramble() *scramble {
	x := scramble(88172645463325252)
	return &x
}

func (x *scramble) oneOf(l ...string) string {
	return l[x.below(len(l))]
}

func (x *scramble) bytes(most int) string {
	b := make([]byte, x.below(most+1))
	for i := range b {
		b[i] = byte(x.below(256))
		if x.below(3) > 0 {
			b[i] = "'\\\"\n\r\tx0 aZ~%"[x.below(13)]
		}
	}
	return string(b)
}

// A node of the kind with any fields that are right.
func (x *scramble) node(kind int) api.Node {
	n := op(kind)
	switch kind {
	case api.PText:
		n.Text = x.bytes(5) + "t"
	case api.PSet:
		for i := range n.Set {
			n.Set[i] = uint64(*x) << x.below(64) >> x.below(64)
			x.below(1)
		}
	case api.PCall:
		n.Text = x.oneOf("a", "b", "s", "A_9", "_", "e", "u")
	case api.PGroup:
		n.Text = x.oneOf("", "k", "name_2")
	case api.PString:
		n.Text = strings.ReplaceAll(x.bytes(5), "%", x.oneOf("%%", "%0", "%9"))
	case api.PTimes, api.PLeast, api.PMost, api.PPick:
		n.N = x.below(51)
	}
	return n
}

// A right pattern; the smaller size is, the smaller it is.
func (x *scramble) pattern(size int) api.Pattern {
	parts := x.below(3)
	if size <= 0 {
		parts = 0
	}
	kinds := kindsWith(parts)
	var p api.Pattern
	for range parts {
		p = append(p, x.pattern(size-1)...)
	}
	return append(p, x.node(kinds[x.below(len(kinds))]))
}

func (x *scramble) grammar(size int) api.Grammar {
	if x.below(4) == 0 {
		return grammar(rule("", x.pattern(size)...))
	}
	var g api.Grammar
	for range 1 + x.below(4) {
		g.Rules = append(g.Rules, rule(x.oneOf("a", "b", "s", "A_9", "_", "e", "long_name"), x.pattern(size)...))
	}
	return g
}

// Right patterns of all sorts: each small one, each kind as the part of each other one, and scrambled ones.
func somePatterns() []api.Pattern {
	var l []api.Pattern
	for kind := range table {
		l = append(l, smallOf(kind))
	}
	slices.SortFunc(l, func(a, b api.Pattern) int { return a[len(a)-1].Op - b[len(b)-1].Op })
	for _, inner := range l {
		l = append(l, aboveEach(inner)...)
	}
	x := newScramble()
	for i := range 3000 {
		l = append(l, x.pattern(i%8))
	}
	return l
}

// Each kind of node with a pattern as its part, at each of its places.
func aboveEach(inner api.Pattern) []api.Pattern {
	var l []api.Pattern
	for _, kind := range kindsWith(1) {
		l = append(l, above(nodeOf(kind), inner))
	}
	l = append(l, above(group(""), inner))
	for _, kind := range kindsWith(2) {
		l = append(l, above(op(kind), inner, list(call("z"))), above(op(kind), list(call("z")), inner), above(op(kind), inner, inner))
	}
	return l
}
