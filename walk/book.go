package walk

import "harrow/api"

// A claim is what a judgement speaks of: a part, by its number, at a place.
type claim struct{ part, at int }

// A book has the judgements that held so far. Two of one claim that both held say the same, so that one end is kept of each.
type book struct {
	net
	subject   string
	ends      map[claim]int
	isMissing bool // something was asked for that no judgement told
}

func (b *book) ask(number, at int) int {
	end, isThere := b.ends[claim{number, at}]
	if !isThere {
		b.isMissing = true
		return failed
	}
	return end
}

func (b *book) peek(number, at int) int { return b.ask(number, at) }

// takes puts a judgement down, if it follows from those in the book.
func (b *book) takes(j api.Judgement) bool {
	number, isThere := b.find(j)
	if !isThere || j.At < 0 || j.At > len(b.subject) {
		return false
	}
	b.isMissing = false
	end := b.parts[number].node.match(b, b.subject, j.At)
	if b.isMissing || end != j.End {
		return false
	}
	b.ends[claim{number, j.At}] = end
	return true
}

// find is the number of the part of which a judgement speaks, if there is one. The parts of a rule have numbers one behind the other, up to its last one's.
func (b *book) find(j api.Judgement) (int, bool) {
	if j.Rule < 0 || j.Rule >= len(b.lasts) {
		return 0, false
	}
	last := b.lasts[j.Rule]
	lastNode := b.parts[last].spot.Node
	if j.Node < 0 || j.Node > lastNode {
		return 0, false
	}
	return last - lastNode + j.Node, true
}
