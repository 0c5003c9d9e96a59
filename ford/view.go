package ford

import (
	"slices"

	"harrow/api"
	"harrow/empty"
)

// A view is a right grammar's rules, by which names they are called, and what layer 9 knows of them.
type view struct {
	rules   []api.Rule
	numbers map[string]int
	known   []api.Emptiness
}

func viewOf(g api.Grammar) (view, api.Errno) {
	known, e := empty.Rules(g)
	if e != api.OK {
		return view{}, e
	}
	v := view{rules: g.Rules, numbers: map[string]int{}, known: known}
	for r, rule := range g.Rules {
		v.numbers[rule.Name] = r
	}
	return v, api.OK
}

// nullable says of the part that ends with each node of a rule's pattern whether it may match nothing. Layer 9 is asked for the parts of a pattern without calls: of the pattern as it is it would reckon all rules anew, for each rule that is asked for.
func (v view) nullable(r int) []bool {
	settled := api.Rule{Body: v.settled(v.rules[r].Body)}
	// Nothing is refused: a right pattern without calls is a right grammar alone.
	parts, _ := empty.Parts(api.Grammar{Rules: []api.Rule{settled}}, 0)
	var l []bool
	for _, x := range parts {
		l = append(l, x.Nullable)
	}
	return l
}

// settled is a pattern in which each call gives way to a node without parts that may match nothing just if the rule may.
func (v view) settled(p api.Pattern) api.Pattern {
	q := slices.Clone(p)
	for at, n := range q {
		if n.Op != api.PCall {
			continue
		}
		q[at] = api.Node{Op: api.PAny}
		if v.known[v.numbers[n.Text]].Nullable {
			q[at] = api.Node{Op: api.PEmpty}
		}
	}
	return q
}

func (v view) loops() []api.Spot {
	var l []api.Spot
	for r, rule := range v.rules {
		nullable := v.nullable(r)
		for at, n := range rule.Body {
			// The part of a node that has one ends right ahead of it.
			if repeats(n) && nullable[at-1] {
				l = append(l, api.Spot{Rule: r, Node: at})
			}
		}
	}
	return l
}

func repeats(n api.Node) bool {
	return n.Op == api.PStar || n.Op == api.PPlus || n.Op == api.PLeast
}
