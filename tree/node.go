package tree

import "harrow/api"

// alone says what is wrong with a node by itself, whatever stands ahead of it.
func alone(n api.Node) api.Errno {
	if Arity(n.Op) < 0 {
		return api.ErrOp
	}
	if !textFits(n) || !numberFits(n) || !setFits(n) {
		return api.ErrField
	}
	return api.OK
}

func textFits(n api.Node) bool {
	switch n.Op {
	case api.PText:
		return n.Text != "" && len(n.Text) <= api.MaxLiteral
	case api.PCall:
		return isName(n.Text)
	case api.PGroup:
		return n.Text == "" || isName(n.Text)
	case api.PString:
		return isTemplate(n.Text)
	}
	return n.Text == ""
}

func numberFits(n api.Node) bool {
	switch n.Op {
	case api.PTimes, api.PLeast, api.PMost, api.PPick:
		return n.N >= 0 && n.N <= api.MaxTimes
	}
	return n.N == 0
}

func setFits(n api.Node) bool {
	return n.Op == api.PSet || n.Set == api.Set{}
}

func isName(s string) bool {
	if s == "" || len(s) > api.MaxName || isDigit(s[0]) {
		return false
	}
	for i := range len(s) {
		if !isDigit(s[i]) && !isLetter(s[i]) && s[i] != '_' {
			return false
		}
	}
	return true
}

func isTemplate(s string) bool {
	if len(s) > api.MaxLiteral {
		return false
	}
	for at := 0; at < len(s); at++ {
		if s[at] != '%' {
			continue
		}
		at++
		if at == len(s) || s[at] != '%' && !isDigit(s[at]) {
			return false
		}
	}
	return true
}

func isDigit(b byte) bool {
	return b >= '0' && b <= '9'
}

func isLetter(b byte) bool {
	return b >= 'a' && b <= 'z' || b >= 'A' && b <= 'Z'
}
