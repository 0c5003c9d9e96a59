package notation

import (
	"harrow/api"
	"harrow/runes"
	"harrow/tree"
)

func (r *reader) rules() []placedRule {
	var l []placedRule
	for r.here().Kind != endOfText {
		l = append(l, r.rule())
	}
	return l
}

// A name that is come to here has '<-' behind it: any other one belongs to the exp ahead.
func (r *reader) rule() placedRule {
	name := r.here()
	r.pass(api.TName)
	r.pass(api.TArrow)
	return placedRule{name.At, api.Rule{Name: name.Text, Body: r.body()}}
}

// alone reads a text without rules.
func (r *reader) alone() placedRule {
	at := r.here().At
	p := r.body()
	if r.here().Kind != endOfText {
		r.refuse(api.ErrSyntax)
	}
	return placedRule{at, api.Rule{Body: p}}
}

// Each body begins a list of its own, since no two lists of an answer may share memory.
func (r *reader) body() api.Pattern {
	r.nodes = nil
	r.exp()
	return r.nodes
}

func (r *reader) exp() {
	r.seq()
	for r.here().Kind == api.TSlash {
		r.pass(api.TSlash)
		r.seq()
		r.put(api.Node{Op: api.PChoice})
	}
}

func (r *reader) seq() {
	r.pre()
	for r.beginsPre() {
		r.pre()
		r.put(api.Node{Op: api.PSeq})
	}
}

func (r *reader) pre() {
	switch r.here().Kind {
	case api.TAnd:
		r.ahead(api.PAnd)
	case api.TNot:
		r.ahead(api.PNot)
	default:
		r.suf()
	}
}

func (r *reader) ahead(op int) {
	r.enter()
	r.pre()
	r.leave()
	r.put(api.Node{Op: op})
}

func (r *reader) suf() {
	r.prim()
	for {
		t := r.here()
		if t.Kind == api.TMaps {
			r.pass(api.TMaps)
			r.image()
			continue
		}
		op, ok := suffixOf(t.Kind)
		if !ok {
			return
		}
		r.pass(t.Kind)
		r.put(api.Node{Op: op, N: t.N})
	}
}

func suffixOf(kind int) (op int, ok bool) {
	switch kind {
	case api.TQuery:
		return api.POpt, true
	case api.TStar:
		return api.PStar, true
	case api.TPlus:
		return api.PPlus, true
	case api.TTimes:
		return api.PTimes, true
	case api.TLeast:
		return api.PLeast, true
	case api.TMost:
		return api.PMost, true
	}
	return 0, false
}

// image reads what stands behind '->'.
func (r *reader) image() {
	t := r.here()
	switch t.Kind {
	case api.TText:
		if !isTemplate(t.Text) {
			r.refuse(api.ErrTemplate)
		}
		r.put(api.Node{Op: api.PString, Text: t.Text})
	case api.TNumber:
		if t.N > api.MaxTimes {
			r.refuse(api.ErrRange)
		}
		r.put(api.Node{Op: api.PPick, N: t.N})
	default:
		r.refuse(api.ErrSyntax)
	}
	r.pass(t.Kind)
}

// What a template is is layer 4's to say: it takes a node with one, and no other.
func isTemplate(text string) bool {
	_, e := tree.Check(api.Pattern{{Op: api.PEmpty}, {Op: api.PString, Text: text}})
	return e == api.OK
}

func (r *reader) prim() {
	if !r.beginsPrim() {
		r.refuse(api.ErrSyntax)
	}
	switch t := r.here(); t.Kind {
	case api.TOpen:
		r.within(api.TClose)
	case api.TBrace:
		r.brace()
	case api.TGroup:
		r.within(api.TUngroup)
		r.put(api.Node{Op: api.PGroup, Text: t.Text})
	case api.TList:
		r.within(api.TUnlist)
		r.put(api.Node{Op: api.PList})
	case api.TSubst:
		r.within(api.TUnsubst)
		r.put(api.Node{Op: api.PSubst})
	default:
		r.put(leafOf(t)...)
		r.pass(t.Kind)
	}
}

func (r *reader) brace() {
	if r.behind() == api.TUnbrace {
		r.pass(api.TBrace)
		r.pass(api.TUnbrace)
		r.put(api.Node{Op: api.PPlace})
		return
	}
	r.within(api.TUnbrace)
	r.put(api.Node{Op: api.PSub})
}

// within reads from a sign that opens to the one that closes it.
func (r *reader) within(closing int) {
	r.enter()
	r.exp()
	r.pass(closing)
	r.leave()
}

// leafOf is the pattern of a token that is a prim by itself.
func leafOf(t api.Token) api.Pattern {
	n := api.Node{Op: api.PEmpty}
	switch t.Kind {
	case api.TText:
		if t.Text != "" {
			n = api.Node{Op: api.PText, Text: t.Text}
		}
	case api.TClass, api.TPercent:
		n = api.Node{Op: api.PSet, Set: t.Set}
	case api.TRunes:
		// No error: layer 5 reads no other ranges than layer 3 takes.
		p, _ := runes.Pattern(t.N, int(t.Set[0]))
		return p
	case api.TDot:
		n = api.Node{Op: api.PAny}
	case api.TFail:
		n = api.Node{Op: api.PFail}
	case api.TName:
		n = api.Node{Op: api.PCall, Text: t.Text}
	}
	return api.Pattern{n}
}
