package token

import "harrow/api"

type sign struct {
	kind int
	text string
}

// All that is told by its sign, or begins with it. Of two that begin alike the longer one stands first, so that the first one that fits is the right one.
var signs = [...]sign{
	{api.TEmpty, "%e"},
	{api.TFail, "%f"},
	{api.TLeast, "^+"},
	{api.TMost, "^-"},
	{api.TTimes, "^"},
	{api.TArrow, "<-"},
	{api.TMaps, "->"},
	{api.TSlash, "/"},
	{api.TAnd, "&"},
	{api.TNot, "!"},
	{api.TQuery, "?"},
	{api.TStar, "*"},
	{api.TPlus, "+"},
	{api.TOpen, "("},
	{api.TClose, ")"},
	{api.TDot, "."},
	{api.TGroup, "{:"},
	{api.TUngroup, ":}"},
	{api.TList, "{|"},
	{api.TUnlist, "|}"},
	{api.TSubst, "{~"},
	{api.TUnsubst, "~}"},
	{api.TBrace, "{"},
	{api.TUnbrace, "}"},
}

// Of what begins with no sign the kind is 0.
func signAt(text string, at int) sign {
	for _, s := range signs {
		if standsAt(text, at, s.text) {
			return s
		}
	}
	return sign{}
}

func signOf(kind int) string {
	text := ""
	for _, s := range signs {
		if s.kind == kind {
			text = s.text
		}
	}
	return text
}
