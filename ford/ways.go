package ford

import (
	"slices"

	"harrow/api"
)

// heads are the heads of all rules, by the rules' numbers; those of each one rise.
type heads [][]int

// cycle is the way back to itself of the least rule that has one; none, if no rule has one.
func (h heads) cycle() []int {
	for r := range h {
		if way := h.wayBack(r); len(way) > 0 {
			return way
		}
	}
	return nil
}

// wayBack is the shortest way from a rule to itself, without its second mention; none, if there is no way. Rules are come to in the order of their ways, shorter ones first, of ways as short the lesser ones first: so the first way that comes back is the one that is told.
func (h heads) wayBack(start int) []int {
	var isCome marks
	var ahead [api.MaxRules]int // of each rule that was come to, which one is ahead of it on its way
	come := []int{start}
	var way []int
along:
	for at := 0; at < len(come); at++ {
		for _, head := range h[come[at]] {
			if head == start {
				way = append(way, come[at])
				break along
			}
			if isCome[head] {
				continue
			}
			isCome[head] = true
			ahead[head] = come[at]
			come = append(come, head)
		}
	}
	if len(way) == 0 {
		return nil
	}
	for r := way[0]; r != start; {
		r = ahead[r]
		way = append(way, r)
	}
	slices.Reverse(way)
	return way
}

// order tells all rules of a well-formed grammar: some rule is free in each round, since no way goes round.
func (h heads) order() []int {
	var isTold marks
	var order []int
round:
	for range h {
		for r := range h {
			if isTold[r] || !isTold.hasAll(h[r]) {
				continue
			}
			isTold[r] = true
			order = append(order, r)
			continue round
		}
	}
	return order
}
