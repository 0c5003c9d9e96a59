package first

import (
	"slices"

	"harrow/api"
	"harrow/empty"
)

// A body is a right pattern, and of the part that ends with each of its nodes whether layer 9 says that it can fail.
type body struct {
	nodes   api.Pattern
	canFail []bool
}

// bodyOf asks layer 9 for the parts of a pattern without calls: of the pattern as it is it would reckon all rules anew, for each pattern that is asked for.
func (k known) bodyOf(p api.Pattern) body {
	settled := api.Rule{Body: k.settled(p)}
	// Nothing is refused: a right pattern without calls is a right grammar alone.
	parts, _ := empty.Parts(api.Grammar{Rules: []api.Rule{settled}}, 0)
	b := body{nodes: p}
	for _, x := range parts {
		b.canFail = append(b.canFail, x.CanFail)
	}
	return b
}

// settled is a pattern in which each call gives way to a node without parts that can fail just if the rule can.
func (k known) settled(p api.Pattern) api.Pattern {
	q := slices.Clone(p)
	for at, n := range q {
		if n.Op != api.PCall {
			continue
		}
		q[at] = api.Node{Op: api.PEmpty}
		if k.emptiness[k.numbers[n.Text]].CanFail {
			q[at] = api.Node{Op: api.PAny}
		}
	}
	return q
}
