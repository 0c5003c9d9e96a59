package packrat

import (
	"math"
	"strings"

	"harrow/api"
)

// failed stands for the place to which a part goes that fails.
const failed = -1

// A matcher tries parts, one within the other, counts them, and keeps what rules said.
type matcher struct {
	layout
	subject string
	memo    memo
	most    int
	steps   int
	tried   int       // rules
	open    int       // parts that have not ended yet
	stopped api.Errno // why nothing is tried any more
}

func matcherOf(g api.Grammar, s string, most int) matcher {
	return matcher{layout: layoutOf(g), subject: s, memo: memoOf(len(g.Rules), len(s)+1), most: most}
}

// rule tries a rule anew, and keeps what it says. Once nothing is tried any more, that means nothing, but is never told either.
func (m *matcher) rule(number, at int) int {
	if m.tried == api.MaxRows && m.mayTry() {
		m.stopped = api.ErrTable
	}
	m.tried++
	end := m.try(m.wholes[number], at)
	m.memo.keep(number, at, end)
	return end
}

func (m *matcher) try(number, at int) int {
	if !m.mayTry() {
		return failed
	}
	m.steps++
	m.open++
	end := m.match(&m.parts[number], at)
	m.open--
	return end
}

// mayTry says whether there is a step left for one more part, and room. Where there is neither, the lack of a step is told, which the chapter names first.
func (m *matcher) mayTry() bool {
	switch {
	case m.stopped != api.OK:
		return false
	case m.steps == m.most:
		m.stopped = api.ErrTired
	case m.open == api.MaxOpen:
		m.stopped = api.ErrDeep
	}
	return m.stopped == api.OK
}

// match is where a part goes from a place by the relation's table, without captures: what captures does what its part does.
func (m *matcher) match(p *part, at int) int {
	switch p.Op {
	case api.PEmpty, api.PPlace:
		return at
	case api.PFail:
		return failed
	case api.PAny, api.PText, api.PSet:
		return m.take(p, at)
	case api.PCall:
		return m.call(p.first, at)
	case api.PSeq:
		return m.sequence(p, at)
	case api.PChoice:
		return m.choice(p, at)
	case api.PStar:
		return m.repeat(p.first, 0, math.MaxInt, at)
	case api.PPlus:
		return m.repeat(p.first, 1, math.MaxInt, at)
	case api.POpt:
		return m.repeat(p.first, 0, 1, at)
	case api.PTimes:
		return m.repeat(p.first, p.N, p.N, at)
	case api.PLeast:
		return m.repeat(p.first, p.N, math.MaxInt, at)
	case api.PMost:
		return m.repeat(p.first, 0, p.N, at)
	case api.PAnd:
		return m.look(p, at, true)
	case api.PNot:
		return m.look(p, at, false)
	}
	return m.try(p.first, at)
}

// take is where a part goes that looks at the subject's next bytes itself.
func (m *matcher) take(p *part, at int) int {
	rest := m.subject[at:]
	switch {
	case p.Op == api.PText && strings.HasPrefix(rest, p.Text):
		return at + len(p.Text)
	case p.Op == api.PAny && rest != "":
		return at + 1
	case p.Op == api.PSet && rest != "" && p.Set[rest[0]/64]>>(rest[0]%64)&1 == 1:
		return at + 1
	}
	return failed
}

func (m *matcher) call(rule, at int) int {
	if x := m.memo.recall(rule, at); x.isKnown {
		return x.end
	}
	return m.rule(rule, at)
}

func (m *matcher) sequence(p *part, at int) int {
	between := m.try(p.first, at)
	if between == failed {
		return failed
	}
	return m.try(p.second, between)
}

func (m *matcher) choice(p *part, at int) int {
	if end := m.try(p.first, at); end != failed {
		return end
	}
	return m.try(p.second, at)
}

// repeat tries a part most times, if it does not fail ahead of that; it must have matched least times then.
func (m *matcher) repeat(part, least, most, at int) int {
	for times := 0; times < most; times++ {
		next := m.try(part, at)
		if next == failed && times < least {
			return failed
		}
		if next == failed {
			break
		}
		at = next
	}
	return at
}

func (m *matcher) look(p *part, at int, isWanted bool) int {
	if isMatch := m.try(p.first, at) != failed; isMatch != isWanted {
		return failed
	}
	return at
}
