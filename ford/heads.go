package ford

import (
	"harrow/api"
	"harrow/tree"
)

// marks says of each rule, by its number, whether it is marked. No right grammar has more rules.
type marks [api.MaxRules]bool

func (m marks) or(other marks) marks {
	for r, isMarked := range other {
		m[r] = m[r] || isMarked
	}
	return m
}

func (m marks) hasAll(rules []int) bool {
	for _, r := range rules {
		if !m[r] {
			return false
		}
	}
	return true
}

// numbers are those of the marked rules, rising.
func (m marks) numbers() []int {
	var l []int
	for r, isMarked := range m {
		if isMarked {
			l = append(l, r)
		}
	}
	return l
}

// A part of a pattern: whether it may match nothing, and with which rules it begins.
type part struct {
	isNullable bool
	begins     marks
}

func (v view) heads() heads {
	var h heads
	for r := range v.rules {
		h = append(h, v.headsOf(r))
	}
	return h
}

func (v view) headsOf(r int) []int {
	nullable := v.nullable(r)
	var free []part // those that belong to no node yet
	for at, n := range v.rules[r].Body {
		rest := len(free) - tree.Arity(n.Op)
		whole := part{isNullable: nullable[at], begins: v.begins(n, free[rest:])}
		free = append(free[:rest], whole)
	}
	return free[0].begins.numbers()
}

// begins marks the rules with which the part begins that ends with a node.
func (v view) begins(n api.Node, parts []part) marks {
	switch n.Op {
	case api.PCall:
		var m marks
		m[v.numbers[n.Text]] = true
		return m
	case api.PSeq:
		if parts[0].isNullable {
			return parts[0].begins.or(parts[1].begins)
		}
	case api.PChoice:
		return parts[0].begins.or(parts[1].begins)
	case api.PTimes, api.PMost:
		if n.N == 0 {
			return marks{}
		}
	}
	if len(parts) == 0 {
		return marks{}
	}
	return parts[0].begins
}
