package tree

import "harrow/api"

// part is a part of a pattern: the numbers of its first and its last node, and the last one's height.
type part struct {
	first, last, height int
}

// through goes through the nodes from the front on, and hands each one that is right to see: as the part that ends with it, and with its own parts. These are lent, and stay as they are only till see comes back. It answers what Check does.
func through(p api.Pattern, see func(whole part, parts []part)) (int, api.Errno) {
	if len(p) > api.MaxNodes {
		return 0, api.ErrLong
	}
	var free []part // those that belong to no node yet
	for at, n := range p {
		if e := alone(n); e != api.OK {
			return at, e
		}
		rest := len(free) - Arity(n.Op)
		if rest < 0 {
			return at, api.ErrParts
		}
		whole := above(p, at, free[rest:])
		if whole.height > api.MaxNest {
			return at, api.ErrDeep
		}
		see(whole, free[rest:])
		free = append(free[:rest], whole)
	}
	if len(free) != 1 {
		return len(p), api.ErrParts
	}
	return 0, api.OK
}

func above(p api.Pattern, at int, parts []part) part {
	whole := part{first: at, last: at, height: 1}
	for i, x := range parts {
		height := x.height + 1
		if i == 0 {
			whole.first = x.first
			// A row that goes on is as high as it was.
			if len(parts) == 2 && p[x.last].Op == p[at].Op {
				height = x.height
			}
		}
		whole.height = max(whole.height, height)
	}
	return whole
}

// find answers the part that ends with a node, and with which nodes that one's own parts end.
func find(p api.Pattern, at int) (part, []int, api.Errno) {
	var found part
	var ends []int
	_, e := through(p, func(whole part, parts []part) {
		if whole.last != at {
			return
		}
		found = whole
		for _, x := range parts {
			ends = append(ends, x.last)
		}
	})
	if e == api.OK && (at < 0 || at >= len(p)) {
		e = api.ErrRange
	}
	if e != api.OK {
		return part{}, nil, e
	}
	return found, ends, api.OK
}
