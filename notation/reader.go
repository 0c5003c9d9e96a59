package notation

import (
	"harrow/api"
	"harrow/token"
)

const (
	// endOfText is the kind of what stands behind the last token, so that the text's end is asked for, and refused, as tokens are.
	endOfText = 0
	// deepest is how many signs may be open at once: it bounds how deep the reader calls itself, more loosely than trees are bounded, since parentheses are no part of them.
	deepest = 4 * api.MaxNest
)

// A reader goes over the tokens, each method over what it is named for in the notation, and lays the nodes of the rule that it is in one behind the other.
type reader struct {
	tokens []api.Token
	next   int
	open   int
	nodes  api.Pattern
}

func newReader(text string) *reader {
	tokens, f := token.Lex(text)
	if f.Code != api.OK {
		giveUp(f.At, f.Code)
	}
	return &reader{tokens: append(tokens, api.Token{Kind: endOfText, At: len(text)})}
}

func (r *reader) here() api.Token {
	return r.tokens[r.next]
}

// behind is the kind of the token behind the next one, which is not the text's end.
func (r *reader) behind() int {
	return r.tokens[r.next+1].Kind
}

func (r *reader) refuse(e api.Errno) {
	giveUp(r.here().At, e)
}

func (r *reader) pass(kind int) {
	if r.here().Kind != kind {
		r.refuse(api.ErrSyntax)
	}
	r.next++
}

// enter passes a sign that opens; leave is called where what it opens ends.
func (r *reader) enter() {
	if r.open == deepest {
		r.refuse(api.ErrDeep)
	}
	r.open++
	r.next++
}

func (r *reader) leave() {
	r.open--
}

func (r *reader) put(nodes ...api.Node) {
	r.nodes = append(r.nodes, nodes...)
}

func (r *reader) beginsRule() bool {
	return r.here().Kind == api.TName && r.behind() == api.TArrow
}

func (r *reader) beginsPre() bool {
	switch r.here().Kind {
	case api.TAnd, api.TNot:
		return true
	}
	return r.beginsPrim()
}

func (r *reader) beginsPrim() bool {
	switch r.here().Kind {
	case api.TText, api.TClass, api.TPercent, api.TRunes, api.TDot, api.TEmpty, api.TFail:
		return true
	case api.TOpen, api.TBrace, api.TGroup, api.TList, api.TSubst:
		return true
	case api.TName:
		return !r.beginsRule()
	}
	return false
}
