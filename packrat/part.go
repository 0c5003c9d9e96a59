package packrat

import (
	"harrow/api"
	"harrow/tree"
)

// A part is the part of a rule's pattern that ends with a node. What it tries are parts, by their numbers; a call's first is the number of the rule instead.
type part struct {
	api.Node
	first, second int
}

// A layout is all parts of a grammar's rules, by their numbers: rule by rule, node by node. Of each rule it has the number of its last part, the whole pattern.
type layout struct {
	parts  []part
	wholes []int
}

// layoutOf takes a well-formed grammar.
func layoutOf(g api.Grammar) layout {
	numbers := map[string]int{}
	for r, rule := range g.Rules {
		numbers[rule.Name] = r
	}
	var l layout
	for _, rule := range g.Rules {
		l.lay(rule.Body, numbers)
		l.wholes = append(l.wholes, len(l.parts)-1)
	}
	return l
}

func (l *layout) lay(p api.Pattern, numbers map[string]int) {
	var free []int // parts that belong to no node yet
	for _, n := range p {
		made := part{Node: n}
		rest := len(free) - tree.Arity(n.Op)
		switch own := free[rest:]; len(own) {
		case 2:
			made.first, made.second = own[0], own[1]
		case 1:
			made.first = own[0]
		default:
			made.first = numbers[n.Text] // of no meaning but in a call
		}
		free = append(free[:rest], len(l.parts))
		l.parts = append(l.parts, made)
	}
}
