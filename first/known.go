package first

import (
	"slices"

	"harrow/api"
	"harrow/empty"
	"harrow/tree"
)

// known is what is known of a right grammar's rules so far, and by which names they are called.
type known struct {
	numbers   map[string]int
	emptiness []api.Emptiness // what layer 9 knows of the rules
	bodies    []body
	rules     []api.Firsts
}

// knownOf lets what is known of all rules grow, until it stays the same. It ends, and the order in which they grow shows in nothing: no line of the table lets a Set become less, or Empty or HeadFail become false, where what is known of the parts grows; and what layer 9 says stays.
func knownOf(g api.Grammar) (known, api.Errno) {
	k, e := begun(g)
	if e != api.OK {
		return known{}, e
	}
	for hasGrown := true; hasGrown; {
		hasGrown = false
		// From the last one on: rules mostly call those behind them, of which all is known then.
		for r, b := range slices.Backward(k.bodies) {
			if x := k.whole(b); x != k.rules[r] {
				k.rules[r] = x
				hasGrown = true
			}
		}
	}
	return k, api.OK
}

// begun is what is known ahead of all growing.
func begun(g api.Grammar) (known, api.Errno) {
	emptiness, e := empty.Rules(g)
	if e != api.OK {
		return known{}, e
	}
	k := known{numbers: map[string]int{}, emptiness: emptiness}
	for r, rule := range g.Rules {
		k.numbers[rule.Name] = r
	}
	// Not in the loop above: a rule may be called ahead of where it stands.
	for _, rule := range g.Rules {
		k.bodies = append(k.bodies, k.bodyOf(rule.Body))
		k.rules = append(k.rules, api.Firsts{})
	}
	return k, api.OK
}

// of is what is known of a pattern beside the rules, if it is right and calls these alone.
func (k known) of(p api.Pattern) (api.Firsts, api.Errno) {
	names, e := tree.Names(p)
	if e != api.OK {
		return api.Firsts{}, e
	}
	for _, name := range names {
		if _, isThere := k.numbers[name]; !isThere {
			return api.Firsts{}, api.ErrUnknown
		}
	}
	return k.whole(k.bodyOf(p)), api.OK
}

func (k known) whole(b body) api.Firsts {
	parts := k.parts(b)
	return parts[len(parts)-1]
}

// A part of a pattern: what is known of its beginning, and whether it can fail.
type part struct {
	api.Firsts
	canFail bool
}

// parts is what is known of the part that ends with each node.
func (k known) parts(b body) []api.Firsts {
	l := make([]api.Firsts, 0, len(b.nodes))
	var free []part // those that belong to no node yet
	for at, n := range b.nodes {
		rest := len(free) - tree.Arity(n.Op)
		whole := part{Firsts: k.node(n, free[rest:]), canFail: b.canFail[at]}
		free = append(free[:rest], whole)
		l = append(l, whole.Firsts)
	}
	return l
}
