package rewrite

import (
	"slices"
	"strings"

	"harrow/api"
	"harrow/charset"
	"harrow/tree"
)

// A part is a node with its parts. What the rules ask of whole parts is known from their making on, so that long rows are not gone through for each of their nodes.
type part struct {
	api.Node
	parts    []*part
	isSure   bool // it does not fail
	captures bool // something in it captures
	isDone   bool // it is known that no rule can be used in it
}

func made(n api.Node, parts ...*part) *part {
	captures := isCapture(n.Op)
	for _, x := range parts {
		captures = captures || x.captures
	}
	return &part{Node: n, parts: parts, isSure: isSure(n, parts), captures: captures}
}

// alone is a part of one node, of which its kind says all.
func alone(kind int) *part { return made(api.Node{Op: kind}) }

// above is a node of a kind that has no more than its part.
func above(kind int, x *part) *part { return made(api.Node{Op: kind}, x) }

// partOf takes a right pattern.
func partOf(p api.Pattern) *part {
	var free []*part // those that belong to no node yet
	for _, n := range p {
		rest := len(free) - tree.Arity(n.Op)
		x := made(n, slices.Clone(free[rest:])...)
		free = append(free[:rest], x)
	}
	return free[0]
}

// appendTo puts the part's nodes behind a pattern; each has a text of its own.
func (t *part) appendTo(p api.Pattern) api.Pattern {
	for _, x := range t.parts {
		p = x.appendTo(p)
	}
	n := t.Node
	n.Text = strings.Clone(n.Text)
	return append(p, n)
}

func (t *part) is(kinds ...int) bool { return slices.Contains(kinds, t.Op) }

// first is the first part of a node that has one.
func (t *part) first() *part { return t.parts[0] }

// last is the second part of a node of two.
func (t *part) last() *part { return t.parts[1] }

func isSure(n api.Node, parts []*part) bool {
	switch n.Op {
	case api.PEmpty, api.PPlace, api.PStar, api.POpt, api.PMost:
		return true
	case api.PSeq:
		return parts[0].isSure && parts[1].isSure
	case api.PChoice:
		return parts[0].isSure || parts[1].isSure
	case api.PNot:
		return parts[0].Op == api.PFail
	case api.PTimes, api.PLeast:
		return n.N == 0 || parts[0].isSure
	case api.PPlus, api.PAnd, api.PSub, api.PGroup, api.PList, api.PSubst, api.PString, api.PPick:
		return parts[0].isSure
	}
	return false
}

func isCapture(kind int) bool { return kind >= api.PPlace && kind <= api.PPick }

// bytes is a byte pattern's set; false, if the part is none.
func (t *part) bytes() (api.Set, bool) {
	switch {
	case t.Op == api.PSet:
		return t.Set, true
	case t.Op == api.PAny:
		return charset.Not(api.Set{}), true
	case t.Op == api.PText && len(t.Text) == 1:
		return charset.Of(t.Text), true
	}
	return api.Set{}, false
}

// bare is the part without anything that captures.
func (t *part) bare() *part {
	switch {
	case !t.captures:
		return t
	case t.Op == api.PPlace:
		return alone(api.PEmpty)
	case isCapture(t.Op):
		return t.first().bare()
	}
	return t.over((*part).bare)
}

// over is the part with what do makes of each of its parts.
func (t *part) over(do func(*part) *part) *part {
	var parts []*part
	for _, x := range t.parts {
		parts = append(parts, do(x))
	}
	if slices.Equal(parts, t.parts) {
		return t
	}
	return made(t.Node, parts...)
}
