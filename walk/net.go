package walk

import (
	"math"
	"strings"

	"harrow/api"
	"harrow/tree"
)

// A part is the part of a rule's pattern that ends with a node.
type part struct {
	spot    api.Spot
	node    node
	capture api.Cap
}

// A net is all parts of a grammar's rules, by their numbers: rule by rule, node by node. Of each rule it has the number of its last part.
type net struct {
	parts []part
	lasts []int
}

// netOf takes a well-formed grammar.
func netOf(g api.Grammar) net {
	var n net
	bodies := map[string]int{}
	behind := 0
	for _, rule := range g.Rules {
		behind += len(rule.Body)
		n.lasts = append(n.lasts, behind-1)
		bodies[rule.Name] = behind - 1
	}
	// Not in the loop above: a rule may be called ahead of where it stands.
	for r, rule := range g.Rules {
		n.lay(r, rule.Body, bodies)
	}
	return n
}

func (n *net) lay(r int, p api.Pattern, bodies map[string]int) {
	var free []int // parts that belong to no node yet
	for at, x := range p {
		rest := len(free) - tree.Arity(x.Op)
		made := nodeOf(x, free[rest:], bodies)
		free = append(free[:rest], len(n.parts))
		n.parts = append(n.parts, part{spot: api.Spot{Rule: r, Node: at}, node: made, capture: capture(made)})
	}
}

func nodeOf(x api.Node, parts []int, bodies map[string]int) node {
	switch x.Op {
	case api.PEmpty:
		return nothing{}
	case api.PFail:
		return never{}
	case api.PAny:
		return anyByte{}
	case api.PText:
		return text{x.Text}
	case api.PSet:
		return class{x.Set}
	case api.PCall:
		return call{bodies[x.Text]}
	case api.PSeq:
		return sequence{parts[0], parts[1]}
	case api.PChoice:
		return choice{parts[0], parts[1]}
	case api.PPlace:
		return place{}
	}
	return above(x, parts[0])
}

// above is a node that has one part, of which it is given the number.
func above(x api.Node, number int) node {
	switch x.Op {
	case api.PStar:
		return repeat{number, 0, math.MaxInt}
	case api.PPlus:
		return repeat{number, 1, math.MaxInt}
	case api.POpt:
		return repeat{number, 0, 1}
	case api.PTimes:
		return repeat{number, x.N, x.N}
	case api.PLeast:
		return repeat{number, x.N, math.MaxInt}
	case api.PMost:
		return repeat{number, 0, x.N}
	case api.PAnd:
		return ahead{number}
	case api.PNot:
		return not{number}
	}
	return capturing(x, within{number})
}

// capturing is a node that captures what its part matches. Its text is told in captures: it is a copy, that no answer may share what was handed in.
func capturing(x api.Node, w within) node {
	switch x.Op {
	case api.PSub:
		return sub{w}
	case api.PGroup:
		return group{w, strings.Clone(x.Text)}
	case api.PList:
		return list{w}
	case api.PSubst:
		return subst{w}
	case api.PString:
		return template{w, strings.Clone(x.Text)}
	}
	return pick{w, x.N}
}
