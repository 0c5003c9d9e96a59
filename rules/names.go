package rules

import (
	"strings"

	"harrow/api"
	"harrow/tree"
)

// numbered answers the rules' numbers by their names, if the grammar is right; else what Check does.
func numbered(g api.Grammar) (map[string]int, api.Spot, api.Errno) {
	if len(g.Rules) == 0 {
		return nil, api.Spot{}, api.ErrShape
	}
	if len(g.Rules) > api.MaxRules {
		return nil, api.Spot{}, api.ErrLong
	}
	numbers := map[string]int{}
	nodes := 0
	for r, rule := range g.Rules {
		isAlone := rule.Name == "" && len(g.Rules) == 1
		if !isAlone && !Name(rule.Name) {
			return nil, api.Spot{Rule: r}, api.ErrText
		}
		if _, isThere := numbers[rule.Name]; isThere {
			return nil, api.Spot{Rule: r}, api.ErrTwice
		}
		numbers[rule.Name] = r
		if node, e := tree.Check(rule.Body); e != api.OK {
			return nil, api.Spot{Rule: r, Node: node}, e
		}
		nodes += len(rule.Body)
		if nodes > api.MaxNodes {
			return nil, api.Spot{Rule: r}, api.ErrLong
		}
	}
	if at, e := unknown(g, numbers); e != api.OK {
		return nil, at, e
	}
	return numbers, api.Spot{}, api.OK
}

// unknown waits until all rules' names are known: a rule may be called ahead of where it stands.
func unknown(g api.Grammar, numbers map[string]int) (api.Spot, api.Errno) {
	for r, rule := range g.Rules {
		for node, n := range rule.Body {
			if n.Op != api.PCall {
				continue
			}
			if _, isThere := numbers[n.Text]; !isThere {
				return api.Spot{Rule: r, Node: node}, api.ErrUnknown
			}
		}
	}
	return api.Spot{}, api.OK
}

// numberedWith also asks that r is a rule's number.
func numberedWith(g api.Grammar, r int) (map[string]int, api.Errno) {
	numbers, _, e := numbered(g)
	if e != api.OK {
		return nil, e
	}
	if r < 0 || r >= len(g.Rules) {
		return nil, api.ErrRange
	}
	return numbers, api.OK
}

// renamed is the grammar with another name in the place of an old one. Its texts are copied, too, since nothing of what is handed in is kept.
func renamed(g api.Grammar, old, name string) api.Grammar {
	instead := func(s string) string {
		if s == old {
			s = name
		}
		return strings.Clone(s)
	}
	var h api.Grammar
	for _, rule := range g.Rules {
		body := make(api.Pattern, 0, len(rule.Body))
		for _, n := range rule.Body {
			if n.Op == api.PCall {
				n.Text = instead(n.Text)
			} else {
				n.Text = strings.Clone(n.Text)
			}
			body = append(body, n)
		}
		h.Rules = append(h.Rules, api.Rule{Name: instead(rule.Name), Body: body})
	}
	return h
}
