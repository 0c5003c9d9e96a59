package walk_test

import (
	"fmt"
	"slices"
	"strconv"
	"strings"
	"testing"

	"harrow/api"
	"harrow/ford"
	"harrow/notation"
	"harrow/show"
	"harrow/tree"
)

// The table of the relation, told otherwise than the package tells it: patterns are cut into their parts from the end, captures are trees till they are told, repetitions are told by the time that they are at, and what was tried is a list of tries, of which steps, judgements and errors are read off.

// A try is a part that was tried: which one, where, where it went to (-1: it failed), within how many others, and as which one it ended.
type try struct {
	api.Judgement
	within, ended int
}

// A grove is captures, each with those within it.
type grove []bush

type bush struct {
	api.Cap
	within grove
}

// A model goes by the relation, and keeps all tries in the order in which they began; it gives up where there are too many of them, or too many within one another.
type model struct {
	g       api.Grammar
	subject string
	tries   []try
	ended   int
	isOver  bool
}

const (
	mostTries = 1 << 12
	mostOpen  = 1 << 10
)

// whole tries a rule's pattern.
func (m *model) whole(r, at, within int) (int, grove) {
	body := m.g.Rules[r].Body
	return m.part(r, len(body)-1, body, at, within)
}

// part tries the part of a rule's pattern that ends with a node.
func (m *model) part(r, last int, p api.Pattern, at, within int) (int, grove) {
	if m.isOver = m.isOver || len(m.tries) == mostTries || within == mostOpen; m.isOver {
		return -1, nil
	}
	number := len(m.tries)
	m.tries = append(m.tries, try{Judgement: api.Judgement{Rule: r, Node: last, At: at}, within: within})
	end, forest := m.relation(r, last, p, at, within+1)
	m.tries[number].End, m.tries[number].ended = end, m.ended
	m.ended++
	if end < 0 {
		return -1, nil
	}
	return end, forest
}

func (m *model) relation(r, last int, p api.Pattern, at, within int) (int, grove) {
	n, one, other := cutParts(p)
	firstPart := func(i int) (int, grove) { return m.part(r, last-1-len(other), one, i, within) }
	secondPart := func(i int) (int, grove) { return m.part(r, last-1, other, i, within) }
	switch n.Op {
	case api.PEmpty, api.PFail, api.PAny, api.PText, api.PSet:
		return takes(n, m.subject, at), nil
	case api.PCall:
		r := slices.IndexFunc(m.g.Rules, func(x api.Rule) bool { return x.Name == n.Text })
		return m.whole(r, at, within)
	case api.PSeq:
		between, forest := firstPart(at)
		if between < 0 {
			return -1, nil
		}
		end, more := secondPart(between)
		return end, append(forest, more...)
	case api.PChoice:
		if end, forest := firstPart(at); end >= 0 {
			return end, forest
		}
		return secondPart(at)
	case api.PAnd:
		end, _ := firstPart(at)
		return min(end, at), nil
	case api.PNot:
		if end, _ := firstPart(at); end >= 0 {
			return -1, nil
		}
		return at, nil
	case api.PPlace:
		return at, grove{{Cap: api.Cap{Kind: api.KPlace, From: at, To: at}}}
	case api.PStar, api.PPlus, api.POpt, api.PTimes, api.PLeast, api.PMost:
		return again(n, firstPart, 0, at)
	}
	end, forest := firstPart(at)
	kinds := map[int]int{api.PSub: api.KSub, api.PGroup: api.KGroup, api.PList: api.KList, api.PSubst: api.KSubst, api.PString: api.KString, api.PPick: api.KPick}
	return end, grove{{Cap: api.Cap{Kind: kinds[n.Op], From: at, To: end, N: n.N, Text: n.Text}, within: forest}}
}

// takes is where a node without parts goes to that leaves no captures.
func takes(n api.Node, subject string, at int) int {
	rest := subject[at:]
	switch {
	case n.Op == api.PEmpty:
		return at
	case n.Op == api.PAny && len(rest) > 0:
		return at + 1
	case n.Op == api.PText && len(rest) >= len(n.Text) && rest[:len(n.Text)] == n.Text:
		return at + len(n.Text)
	case n.Op == api.PSet && len(rest) > 0 && n.Set[rest[0]>>6]&(1<<(rest[0]&63)) != 0:
		return at + 1
	}
	return -1
}

// again is a repetition that has matched so many times already, and is at a place.
func again(n api.Node, part func(int) (int, grove), times, at int) (int, grove) {
	isEnough := n.Op == api.POpt && times == 1 || (n.Op == api.PTimes || n.Op == api.PMost) && times == n.N
	if isEnough {
		return at, nil
	}
	end, forest := part(at)
	if end >= 0 {
		end, more := again(n, part, times+1, end)
		return end, append(forest, more...)
	}
	isMissing := n.Op == api.PPlus && times == 0 || (n.Op == api.PTimes || n.Op == api.PLeast) && times < n.N
	if isMissing {
		return -1, nil
	}
	return at, nil
}

// caps tells a grove as a forest.
func (l grove) caps() []api.Cap {
	var told []api.Cap
	for _, x := range l {
		c := x.Cap
		c.Kids = len(x.within)
		told = append(append(told, c), x.within.caps()...)
	}
	return told
}

// A walked is what Walk is to say when it has steps enough, and the tries that it makes.
type walked struct {
	api.Result
	tries []try
}

// walk is nothing and false where there would be too many tries.
func walkOf(g api.Grammar, r int, s string, at int) (walked, bool) {
	m := model{g: g, subject: s}
	end, forest := m.whole(r, at, 0)
	if m.isOver {
		return walked{}, false
	}
	if end < 0 {
		return walked{api.Result{Kind: api.Failed}, m.tries}, true
	}
	return walked{api.Result{Kind: api.Matched, End: end, Caps: forest.caps()}, m.tries}, true
}

// judgements are the tries in the order in which they ended.
func (w walked) judgements() []api.Judgement {
	l := make([]api.Judgement, len(w.tries))
	for _, x := range w.tries {
		l[x.ended] = x.Judgement
	}
	return l
}

// sameResult says whether two ends are one, field by field (a list without captures is one, nil or empty).
func sameResult(x, y api.Result) bool {
	return x.Kind == y.Kind && x.End == y.End && slices.Equal(x.Caps, y.Caps)
}

// cutParts takes a pattern's last node away, and cuts the rest into the node's parts: from the end back, till none is missing.
func cutParts(p api.Pattern) (n api.Node, one, other api.Pattern) {
	n = p[len(p)-1]
	rest := p[:len(p)-1]
	missing, at := 1, len(rest)
	for at > 0 && missing > 0 {
		at--
		missing += tree.Arity(rest[at].Op) - 1
	}
	if tree.Arity(n.Op) == 2 {
		return n, rest[:at], rest[at:]
	}
	return n, rest, nil
}

// told is an end in short: where it goes to, then the captures, each with its kind's word, its text and number (if it has some), its places, and in parentheses what is within it.
func told(x api.Result) string {
	if x.Kind == api.Failed {
		return "fails"
	}
	if x.Kind != api.Matched {
		return fmt.Sprint(x)
	}
	words, rest := toldCaps(x.Caps, -1)
	if len(rest) > 0 {
		words += fmt.Sprint(" and ", rest)
	}
	return strings.TrimSpace(strconv.Itoa(x.End) + " " + words)
}

// toldCaps tells so many captures of a list's front (-1: all), and what is left of the list.
func toldCaps(l []api.Cap, n int) (string, []api.Cap) {
	var words []string
	for len(l) > 0 && n != 0 {
		c := l[0]
		word := [...]string{"none", "place", "sub", "group", "list", "subst", "string", "pick"}[c.Kind]
		if c.Text != "" || c.N != 0 {
			word += fmt.Sprintf("[%s%d]", c.Text, c.N)
		}
		word += fmt.Sprintf(" %d-%d", c.From, c.To)
		within, rest := toldCaps(l[1:], c.Kids)
		if within != "" {
			word += "(" + within + ")"
		}
		words = append(words, word)
		l = rest
		n--
	}
	return strings.Join(words, ", "), l
}

// text is a grammar in the notation, as far as it is short.
func text(g api.Grammar) string {
	s, e := show.Grammar(g)
	if e != api.OK {
		s = fmt.Sprint(g)
	}
	return s[:min(len(s), 400)]
}

func op(k int) api.Node                           { return api.Node{Op: k} }
func counted(k, n int) api.Node                   { return api.Node{Op: k, N: n} }
func worded(k int, s string) api.Node             { return api.Node{Op: k, Text: s} }
func lit(s string) api.Node                       { return worded(api.PText, s) }
func call(s string) api.Node                      { return worded(api.PCall, s) }
func set(s api.Set) api.Node                      { return api.Node{Op: api.PSet, Set: s} }
func list(l ...api.Node) api.Pattern              { return l }
func rule(name string, body ...api.Node) api.Rule { return api.Rule{Name: name, Body: body} }
func grammar(l ...api.Rule) api.Grammar           { return api.Grammar{Rules: l} }
func alone(body ...api.Node) api.Grammar          { return grammar(rule("", body...)) }
func times(s string, n int) string                { return strings.Repeat(s, n) }
func nameOf(r int) string                         { return "r" + strconv.Itoa(r) }

func tower(n int, above, under api.Node) api.Pattern {
	return append(list(under), slices.Repeat(list(above), n)...)
}

// A line of n parts and a first one, put together from the left: 2n + 1 nodes.
func line(kind, n int, part api.Node) api.Pattern {
	p := list(part)
	for range n {
		p = append(p, part, op(kind))
	}
	return p
}

func read(t *testing.T, text string) api.Grammar {
	t.Helper()
	g, f := notation.Parse(text)
	if f != (api.Fault{}) {
		t.Fatal(text, f)
	}
	return g
}

// Numbers without any order in them, the same ones each time.
type scramble uint64

func newScramble() *scramble {
	x := scramble(88172645463325252)
	return &x
}

func (x *scramble) below(n int) int {
	*x ^= *x << 13
	*x ^= *x >> 7
	*x ^= *x << 17
	return int(uint64(*x) >> 11 % uint64(n))
}

func (x *scramble) node(kind int, names []string) api.Node {
	n := op(kind)
	switch kind {
	case api.PText:
		n.Text = []string{"a", "b", "c", "ab", "ba", "ca"}[x.below(6)]
	case api.PCall:
		n.Text = names[x.below(len(names))]
	case api.PGroup, api.PString:
		n.Text = []string{"", "k"}[x.below(2)]
	case api.PSet:
		n.Set = api.Set{0, uint64(2*x.below(8)) << 32}
	case api.PTimes, api.PLeast, api.PMost, api.PPick:
		n.N = []int{0, 1, 1, 2, 3}[x.below(5)]
	}
	return n
}

// A right pattern of about so many nodes at most.
func (x *scramble) pattern(size int, names []string) api.Pattern {
	if size < 2 {
		leaves := []int{api.PText, api.PText, api.PText, api.PEmpty, api.PFail, api.PAny, api.PSet, api.PSet, api.PPlace, api.PCall, api.PCall, api.PCall}
		return list(x.node(leaves[x.below(len(leaves))], names))
	}
	kind := api.PSeq + x.below(17)
	if x.below(2) == 0 {
		kind = api.PSeq + x.below(2)
	}
	switch tree.Arity(kind) {
	case 0:
		return list(x.node(kind, names))
	case 1:
		return append(x.pattern(size-1, names), x.node(kind, names))
	}
	first := x.below(size)
	return append(append(x.pattern(first, names), x.pattern(size-1-first, names)...), x.node(kind, names))
}

// A right grammar of n rules; each one calls a few of them.
func (x *scramble) grammar(n, size int) api.Grammar {
	var names []string
	for r := range n {
		names = append(names, string([]byte{byte('a' + r*7%26)})+strconv.Itoa(r*37%211))
	}
	var g api.Grammar
	for _, name := range names {
		at := x.below(n)
		g.Rules = append(g.Rules, rule(name, x.pattern(1+x.below(size), names[at:min(n, at+3)])...))
	}
	return g
}

func (x *scramble) wellFormed(n, size int) api.Grammar {
	for {
		g := x.grammar(n, size)
		if _, e := ford.Check(g); e == api.OK {
			return g
		}
	}
}

func (x *scramble) order(n int) []int {
	l := make([]int, n)
	for i := range l {
		l[i] = i
	}
	for i := range l {
		j := i + x.below(n-i)
		l[i], l[j] = l[j], l[i]
	}
	return l
}

// A subject of bytes that the scrambled patterns speak of.
func (x *scramble) subject(size int) string {
	var s []byte
	for range x.below(size + 1) {
		s = append(s, "aaabbc"[x.below(6)])
	}
	return string(s)
}
