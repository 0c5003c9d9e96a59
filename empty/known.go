package empty

import (
	"slices"

	"harrow/api"
	"harrow/rules"
	"harrow/tree"
)

// known is what is known of a right grammar's rules so far, and by which names they are called.
type known struct {
	numbers map[string]int
	rules   []api.Emptiness
}

// knownOf lets what is known of all rules grow, until it stays the same. It ends: Nullable and CanFail only become true; Least only becomes less, and is there behind as many rounds as there are rules, since the least match of a rule has no need of that rule within it; Most hangs on rules alone that do not come to themselves.
func knownOf(g api.Grammar) (known, api.Errno) {
	again, e := rules.Again(g)
	if e != api.OK {
		return known{}, e
	}
	k := begun(g, again)
	for {
		next := k.round(g, again)
		if slices.Equal(next, k.rules) {
			return k, api.OK
		}
		k.rules = next
	}
}

// begun is what is known ahead of all rounds. That Most is 0 there for rules that do not come to themselves shows in no answer: in the end it hangs on what they call alone.
func begun(g api.Grammar, again []bool) known {
	k := known{numbers: map[string]int{}}
	for r, rule := range g.Rules {
		k.numbers[rule.Name] = r
		x := api.Emptiness{Least: beyond}
		if again[r] {
			x.Most = beyond
		}
		k.rules = append(k.rules, x)
	}
	return k
}

// round reckons all rules anew, by what was known of them.
func (k known) round(g api.Grammar, again []bool) []api.Emptiness {
	var next []api.Emptiness
	for r, rule := range g.Rules {
		x := k.of(rule.Body)
		if again[r] {
			x.Most = beyond
		}
		next = append(next, x)
	}
	return next
}

// of is what is known of a right pattern that calls rules of the grammar alone.
func (k known) of(p api.Pattern) api.Emptiness {
	return through(p, k.node)
}

// parts is what is known of the part that ends with each node of such a pattern.
func (k known) parts(p api.Pattern) []api.Emptiness {
	var l []api.Emptiness
	through(p, func(n api.Node, parts []api.Emptiness) api.Emptiness {
		x := k.node(n, parts)
		l = append(l, x)
		return x
	})
	return l
}

// through hands each node of a right pattern to tell, with what that told of the node's parts, and answers what it tells of the last one. The parts are lent, and stay as they are only till tell comes back.
func through(p api.Pattern, tell func(n api.Node, parts []api.Emptiness) api.Emptiness) api.Emptiness {
	var free []api.Emptiness // of parts that belong to no node yet
	for _, n := range p {
		rest := len(free) - tree.Arity(n.Op)
		whole := tell(n, free[rest:])
		free = append(free[:rest], whole)
	}
	return free[0]
}
