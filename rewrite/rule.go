package rewrite

import (
	"harrow/api"
	"harrow/charset"
)

// A rule says what becomes of a part; nil, if it can't be used there.
type rule func(*part) *part

// sixteen is the chapter's rules, in their order.
func sixteen() []rule {
	return []rule{
		(*part).setOfNoneOrAll,
		(*part).noTimes,
		(*part).fewTimes,
		(*part).seqWithEmpty,
		(*part).seqWithFail,
		(*part).choiceWithFail,
		(*part).choiceOfSure,
		(*part).choiceOfBytes,
		(*part).seqOfTexts,
		(*part).predicateOfPredicate,
		(*part).predicateThatIsKnown,
		(*part).predicateOfCaptures,
		(*part).repeatedFail,
		(*part).optOfSure,
		(*part).repeatedPlus,
		(*part).rowFromTheRight,
	}
}

// inTurn answers what tries rules one behind the other: it tells what the first one that can be used makes of a part, and its number (from 1 on; 0: none can be used).
func inTurn(rules []rule) func(*part) (*part, int) {
	return func(t *part) (*part, int) {
		for i, use := range rules {
			if x := use(t); x != nil {
				return x, i + 1
			}
		}
		return nil, 0
	}
}

func (t *part) setOfNoneOrAll() *part {
	switch {
	case t.Op == api.PSet && charset.Empty(t.Set):
		return alone(api.PFail)
	case t.Op == api.PSet && charset.Full(t.Set):
		return alone(api.PAny)
	}
	return nil
}

func (t *part) noTimes() *part {
	if t.is(api.PTimes, api.PMost) && t.N == 0 {
		return alone(api.PEmpty)
	}
	return nil
}

func (t *part) fewTimes() *part {
	switch {
	case t.Op == api.PTimes && t.N == 1:
		return t.first()
	case t.Op == api.PMost && t.N == 1:
		return above(api.POpt, t.first())
	case t.Op == api.PLeast && t.N == 0:
		return above(api.PStar, t.first())
	case t.Op == api.PLeast && t.N == 1:
		return above(api.PPlus, t.first())
	}
	return nil
}

func (t *part) seqWithEmpty() *part { return t.without(api.PSeq, api.PEmpty) }

func (t *part) seqWithFail() *part {
	if t.without(api.PSeq, api.PFail) != nil {
		return alone(api.PFail)
	}
	return nil
}

func (t *part) choiceWithFail() *part { return t.without(api.PChoice, api.PFail) }

// without is what stands beside a part of the kind idle in a node of the kind whole: behind it, if both parts are of that kind.
func (t *part) without(whole, idle int) *part {
	switch {
	case t.Op != whole:
		return nil
	case t.first().Op == idle:
		return t.last()
	case t.last().Op == idle:
		return t.first()
	}
	return nil
}

func (t *part) choiceOfSure() *part {
	if t.Op == api.PChoice && t.first().isSure {
		return t.first()
	}
	return nil
}

func (t *part) choiceOfBytes() *part {
	return t.withLastTwo(api.PChoice, func(x, y *part) *part {
		a, isByte := x.bytes()
		b, areBytes := y.bytes()
		if !isByte || !areBytes {
			return nil
		}
		return made(api.Node{Op: api.PSet, Set: charset.Union(a, b)})
	})
}

func (t *part) seqOfTexts() *part {
	return t.withLastTwo(api.PSeq, func(x, y *part) *part {
		if x.Op != api.PText || y.Op != api.PText || len(x.Text)+len(y.Text) > api.MaxLiteral {
			return nil
		}
		return made(api.Node{Op: api.PText, Text: x.Text + y.Text})
	})
}

// withLastTwo is a row of the kind whole in which both makes one of the last part and the one ahead of it.
func (t *part) withLastTwo(whole int, both func(x, y *part) *part) *part {
	if t.Op != whole {
		return nil
	}
	first, last := t.first(), t.last()
	if one := both(first, last); one != nil {
		return one
	}
	if first.Op != whole {
		return nil
	}
	if one := both(first.last(), last); one != nil {
		return made(t.Node, first.first(), one)
	}
	return nil
}

func (t *part) predicateOfPredicate() *part {
	switch {
	case !t.isPredicate() || !t.first().isPredicate():
		return nil
	case t.Op == api.PAnd:
		return t.first()
	case t.first().Op == api.PNot:
		return above(api.PAnd, t.first().first())
	}
	return above(api.PNot, t.first().first())
}

func (t *part) predicateThatIsKnown() *part {
	if !t.isPredicate() || !t.first().is(api.PEmpty, api.PFail) {
		return nil
	}
	if (t.Op == api.PAnd) == (t.first().Op == api.PEmpty) {
		return alone(api.PEmpty)
	}
	return alone(api.PFail)
}

func (t *part) predicateOfCaptures() *part {
	if t.isPredicate() && t.captures {
		return above(t.Op, t.first().bare())
	}
	return nil
}

func (t *part) isPredicate() bool { return t.is(api.PAnd, api.PNot) }

func (t *part) repeatedFail() *part {
	switch {
	case !t.is(api.PStar, api.PPlus, api.POpt) || t.first().Op != api.PFail:
		return nil
	case t.Op == api.PPlus:
		return alone(api.PFail)
	}
	return alone(api.PEmpty)
}

func (t *part) optOfSure() *part {
	if t.Op == api.POpt && t.first().isSure {
		return t.first()
	}
	return nil
}

func (t *part) repeatedPlus() *part {
	switch {
	case !t.is(api.PStar, api.PPlus, api.POpt) || t.first().Op != api.PPlus:
		return nil
	case t.Op == api.PPlus:
		return t.first()
	}
	return above(api.PStar, t.first().first())
}

// rowFromTheRight makes a row that leans to the right lean to the left.
func (t *part) rowFromTheRight() *part {
	if !t.is(api.PSeq, api.PChoice) || t.last().Op != t.Op {
		return nil
	}
	rest := t.last()
	return made(t.Node, made(t.Node, t.first(), rest.first()), rest.last())
}
