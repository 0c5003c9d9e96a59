package rules

import (
	"slices"

	"harrow/api"
	"harrow/tree"
)

// A net is what the rules of a right grammar call: of each one its rules, rising, each once.
type net [][]int

func netOf(g api.Grammar) (net, api.Errno) {
	numbers, _, e := numbered(g)
	if e != api.OK {
		return nil, e
	}
	return netBy(numbers, g), api.OK
}

// netWith also asks that r is a rule's number.
func netWith(g api.Grammar, r int) (net, api.Errno) {
	numbers, e := numberedWith(g, r)
	if e != api.OK {
		return nil, e
	}
	return netBy(numbers, g), api.OK
}

func netBy(numbers map[string]int, g api.Grammar) net {
	n := make(net, len(g.Rules))
	// Each rule has a place of its own in the net, so that it tells nothing which one comes first here.
	for _, r := range numbers {
		n[r] = calledBy(g.Rules[r].Body, numbers)
	}
	return n
}

func calledBy(p api.Pattern, numbers map[string]int) []int {
	// Nothing is refused: the grammar is right, and so are its patterns.
	names, _ := tree.Names(p)
	var called []int
	for _, name := range names {
		called = append(called, numbers[name])
	}
	slices.Sort(called)
	return called
}

// comesTo marks the rules to which a rule comes; itself only if it comes back.
func (n net) comesTo(r int) []bool {
	isReached := make([]bool, len(n))
	ahead := []int{r}
	for len(ahead) > 0 {
		last := len(ahead) - 1
		calls := n[ahead[last]]
		ahead = ahead[:last]
		for _, c := range calls {
			if !isReached[c] {
				isReached[c] = true
				ahead = append(ahead, c)
			}
		}
	}
	return isReached
}

// ways says of each rule to which ones it comes.
type ways [][]bool

func (n net) ways() ways {
	var w ways
	for r := range n {
		w = append(w, n.comesTo(r))
	}
	return w
}

// groups tells them in their order. It ends, since each one that is told has a rule that was not told yet.
func (w ways) groups() [][]int {
	var groups [][]int
	isTold := make([]bool, len(w))
	for r := w.nextFree(isTold); r < len(w); r = w.nextFree(isTold) {
		group := w.groupOf(r)
		for _, member := range group {
			isTold[member] = true
		}
		groups = append(groups, group)
	}
	return groups
}

// nextFree is the least rule that is not told and whose group is free; else how many rules there are. It is its group's least one, too: the others of that group are as free as it is.
func (w ways) nextFree(isTold []bool) int {
	for r := range w {
		if !isTold[r] && w.isFree(r, isTold) {
			return r
		}
	}
	return len(w)
}

// isFree says whether all rules to which a rule comes are told, or of its own group. That all are asked, not only those that the group calls, is the same: told ones call told ones.
func (w ways) isFree(r int, isTold []bool) bool {
	for c, isReached := range w[r] {
		comesBack := w[c][r]
		if isReached && !isTold[c] && !comesBack {
			return false
		}
	}
	return true
}

func (w ways) groupOf(r int) []int {
	inGroup := make([]bool, len(w))
	for other := range w {
		inGroup[other] = other == r || w[r][other] && w[other][r]
	}
	return marked(inGroup)
}

func marked(marks []bool) []int {
	var l []int
	for i, isMarked := range marks {
		if isMarked {
			l = append(l, i)
		}
	}
	return l
}
