package walk

import (
	"strings"

	"harrow/api"
)

// failed stands for the place to which a part goes that fails.
const failed = -1

// A node is asked to match a subject at a place: it says where it goes, or that it failed. What its parts do it asks of another one, so that the same nodes serve a walk, which tries their parts, and a book of judgements, which looks up what was told of them.
type node interface {
	match(a asker, s string, at int) int
}

// An asker says where a part, by its number, goes from a place. It says failed, too, where there is nothing to be said: then no node asks on and on.
type asker interface {
	ask(number, at int) int
	// peek asks for what the part says alone: it leaves no captures.
	peek(number, at int) int
}

type (
	nothing  struct{}
	never    struct{}
	anyByte  struct{}
	text     struct{ text string }
	class    struct{ set api.Set }
	call     struct{ body int }
	sequence struct{ first, second int }
	choice   struct{ first, second int }
	// A repeat is a part that is tried most times, if it does not fail ahead of that, and must have matched least times then.
	repeat struct{ part, least, most int }
	ahead  struct{ part int }
	not    struct{ part int }
	place  struct{}
)

// A within is the match of a capture: its part's.
type within struct{ part int }

type (
	sub   struct{ within }
	group struct {
		within
		name string
	}
	list     struct{ within }
	subst    struct{ within }
	template struct {
		within
		text string
	}
	pick struct {
		within
		number int
	}
)

func (nothing) match(_ asker, _ string, at int) int { return at }

func (never) match(_ asker, _ string, _ int) int { return failed }

func (anyByte) match(_ asker, s string, at int) int {
	if at == len(s) {
		return failed
	}
	return at + 1
}

func (n text) match(_ asker, s string, at int) int {
	if !strings.HasPrefix(s[at:], n.text) {
		return failed
	}
	return at + len(n.text)
}

func (n class) match(_ asker, s string, at int) int {
	if at == len(s) || n.set[s[at]/64]>>(s[at]%64)&1 == 0 {
		return failed
	}
	return at + 1
}

func (n call) match(a asker, _ string, at int) int { return a.ask(n.body, at) }

func (n sequence) match(a asker, _ string, at int) int {
	between := a.ask(n.first, at)
	if between == failed {
		return failed
	}
	return a.ask(n.second, between)
}

func (n choice) match(a asker, _ string, at int) int {
	if end := a.ask(n.first, at); end != failed {
		return end
	}
	return a.ask(n.second, at)
}

func (n repeat) match(a asker, _ string, at int) int {
	for times := 0; times < n.most; times++ {
		next := a.ask(n.part, at)
		if next == failed && times < n.least {
			return failed
		}
		if next == failed {
			break
		}
		at = next
	}
	return at
}

func (n ahead) match(a asker, _ string, at int) int {
	if a.peek(n.part, at) == failed {
		return failed
	}
	return at
}

func (n not) match(a asker, _ string, at int) int {
	if a.peek(n.part, at) == failed {
		return at
	}
	return failed
}

func (place) match(_ asker, _ string, at int) int { return at }

func (n within) match(a asker, _ string, at int) int { return a.ask(n.part, at) }

// capture is what a node leaves in the forest, but for its places and what is within it. Of one that does not capture it is no capture of any kind.
func capture(n node) api.Cap {
	switch n := n.(type) {
	case place:
		return api.Cap{Kind: api.KPlace}
	case sub:
		return api.Cap{Kind: api.KSub}
	case group:
		return api.Cap{Kind: api.KGroup, Text: n.name}
	case list:
		return api.Cap{Kind: api.KList}
	case subst:
		return api.Cap{Kind: api.KSubst}
	case template:
		return api.Cap{Kind: api.KString, Text: n.text}
	case pick:
		return api.Cap{Kind: api.KPick, N: n.number}
	}
	return api.Cap{}
}
