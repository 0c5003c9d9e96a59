package show

import (
	"slices"
	"strings"

	"harrow/api"
	"harrow/tree"
)

// A page is a text that grows piece by piece.
type page struct {
	text strings.Builder
}

func (g *page) add(pieces ...string) {
	for _, s := range pieces {
		g.text.WriteString(s)
	}
}

// How long a page becomes is bounded by the nodes that a pattern may have: so it is enough to ask at its end.
func (g *page) whole() (string, api.Errno) {
	if g.text.Len() > api.MaxText {
		return "", api.ErrLong
	}
	return g.text.String(), api.OK
}

// A teller tells a pattern that is right. It knows no page, only how a piece is told.
type teller struct {
	nodes api.Pattern
	parts [][]int // of each node the numbers of its parts' last nodes
	tell  func(pieces ...string)
}

func newTeller(p api.Pattern, tell func(pieces ...string)) *teller {
	return &teller{nodes: p, parts: partsOf(p), tell: tell}
}

// Layer 4's Parts goes through the whole pattern for each node that it is asked for; here all of them are wanted.
func partsOf(p api.Pattern) [][]int {
	parts := make([][]int, len(p))
	var free []int // the last nodes of those that belong to no node yet
	for at, n := range p {
		rest := len(free) - tree.Arity(n.Op)
		parts[at] = slices.Clone(free[rest:])
		free = append(free[:rest], at)
	}
	return parts
}

func (t *teller) pattern() {
	t.part(len(t.nodes)-1, exp)
}

// part tells the part that ends with a node, where what stands must hold as strongly as asked.
func (t *teller) part(at, asked int) {
	if kind.holds(kind(t.nodes[at].Op)) >= asked {
		t.node(at)
		return
	}
	t.tell("(")
	t.node(at)
	t.tell(")")
}

func (t *teller) node(at int) {
	n := t.nodes[at]
	f := frameOf(n)
	t.tell(f.ahead)
	for i, end := range t.parts[at] {
		if i > 0 {
			t.tell(f.between)
		}
		t.part(end, kind.asks(kind(n.Op), i))
	}
	t.tell(f.behind)
}

func (t *teller) tree() {
	t.branch(len(t.nodes)-1, "")
}

func (t *teller) branch(at int, indent string) {
	n := t.nodes[at]
	t.tell(indent, words[n.Op])
	if s := fieldOf(n); s != "" {
		t.tell(" ", s)
	}
	t.tell("\n")
	for _, end := range t.parts[at] {
		t.branch(end, indent+"  ")
	}
}
