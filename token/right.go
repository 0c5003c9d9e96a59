package token

import (
	"harrow/api"
	"harrow/charset"
)

func isRight(t api.Token) bool {
	return t.Kind >= api.TName && t.Kind <= api.TFail && textFits(t) && numberFits(t) && setFits(t)
}

func textFits(t api.Token) bool {
	switch t.Kind {
	case api.TName:
		return isName(t.Text)
	case api.TGroup:
		return t.Text == "" || isName(t.Text)
	case api.TText:
		return len(t.Text) <= api.MaxLiteral
	case api.TPercent:
		return len(t.Text) == 1
	}
	return t.Text == ""
}

func numberFits(t api.Token) bool {
	if t.Kind == api.TRunes {
		return t.N >= 0 && uint64(t.N) <= t.Set[0]
	}
	return t.N >= 0 && t.N <= greatest(t.Kind)
}

// greatest is the greatest number that a kind may have: none at all, if its N says nothing.
func greatest(kind int) int {
	switch kind {
	case api.TNumber:
		return maxNumber
	case api.TTimes, api.TLeast, api.TMost:
		return api.MaxTimes
	}
	return 0
}

// Asked of a token whose text fits.
func setFits(t api.Token) bool {
	switch t.Kind {
	case api.TClass:
		return true
	case api.TPercent:
		class, e := charset.Class(t.Text[0])
		return e == api.OK && t.Set == class
	case api.TRunes:
		return t.Set[0] <= lastPoint && t.Set == api.Set{t.Set[0]}
	}
	return t.Set == api.Set{}
}

func isName(s string) bool {
	return s != "" && len(s) <= api.MaxName && beginsName(s[0]) && runEnd(s, 0, isOfName) == len(s)
}
