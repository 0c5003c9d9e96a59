package show

import (
	"strconv"

	"harrow/api"
	"harrow/charset"
	"harrow/quote"
)

// How strongly a text holds: the lines of the notation (chapter 6), from the weakest on. Where one is asked for, what holds more may stand, too.
const (
	exp = iota
	seq
	pre
	suf
	prim
)

// kind is a kind of node.
type kind int

func (k kind) holds() int {
	switch k {
	case api.PChoice:
		return exp
	case api.PSeq:
		return seq
	case api.PAnd, api.PNot:
		return pre
	case api.PStar, api.PPlus, api.POpt, api.PTimes, api.PLeast, api.PMost, api.PString, api.PPick:
		return suf
	}
	return prim
}

// asks is how strongly a part must hold: not at all between signs that close; else as the node does, and the second one of two more than that, since rows are read from the left.
func (k kind) asks(part int) int {
	if k.holds() == prim {
		return exp
	}
	return k.holds() + part
}

// A frame is what stands around a node's parts; it is the whole text of a node that has none.
type frame struct {
	ahead, between, behind string
}

func frameOf(n api.Node) frame {
	switch n.Op {
	case api.PEmpty:
		return frame{ahead: "%e"}
	case api.PFail:
		return frame{ahead: "%f"}
	case api.PAny:
		return frame{ahead: "."}
	case api.PPlace:
		return frame{ahead: "{}"}
	case api.PSeq:
		return frame{between: " "}
	case api.PChoice:
		return frame{between: " / "}
	case api.PStar:
		return frame{behind: "*"}
	case api.PPlus:
		return frame{behind: "+"}
	case api.POpt:
		return frame{behind: "?"}
	case api.PTimes:
		return frame{behind: "^" + fieldOf(n)}
	case api.PLeast:
		return frame{behind: "^+" + fieldOf(n)}
	case api.PMost:
		return frame{behind: "^-" + fieldOf(n)}
	case api.PString, api.PPick:
		return frame{behind: " -> " + fieldOf(n)}
	case api.PAnd:
		return frame{ahead: "&"}
	case api.PNot:
		return frame{ahead: "!"}
	case api.PSub:
		return frame{ahead: "{", behind: "}"}
	case api.PGroup:
		return frame{ahead: groupSign(n.Text) + " ", behind: " :}"}
	case api.PList:
		return frame{ahead: "{| ", behind: " |}"}
	case api.PSubst:
		return frame{ahead: "{~ ", behind: " ~}"}
	}
	return frame{ahead: fieldOf(n)}
}

func groupSign(name string) string {
	if name == "" {
		return "{:"
	}
	return "{:" + name + ":"
}

// fieldOf is what a node says besides its kind; no text, if that is nothing.
func fieldOf(n api.Node) string {
	switch n.Op {
	case api.PText, api.PString:
		// It can't be too long: a literal has few bytes.
		literal, _ := quote.Quote(n.Text)
		return literal
	case api.PSet:
		return charset.Show(n.Set)
	case api.PCall, api.PGroup:
		return n.Text
	case api.PTimes, api.PLeast, api.PMost, api.PPick:
		return strconv.Itoa(n.N)
	}
	return ""
}

// The kinds' words in a tree.
var words = [...]string{
	api.PEmpty: "empty", api.PFail: "fail", api.PAny: "any", api.PText: "text", api.PSet: "set", api.PCall: "call", api.PSeq: "seq", api.PChoice: "choice",
	api.PStar: "star", api.PPlus: "plus", api.POpt: "opt", api.PAnd: "and", api.PNot: "not", api.PTimes: "times", api.PLeast: "least", api.PMost: "most",
	api.PPlace: "place", api.PSub: "sub", api.PGroup: "group", api.PList: "list", api.PSubst: "subst", api.PString: "string", api.PPick: "pick",
}
