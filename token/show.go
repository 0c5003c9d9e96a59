package token

import (
	"strconv"

	"harrow/api"
	"harrow/charset"
	"harrow/quote"
)

// show tells the text of a token that is right.
func show(t api.Token) string {
	switch t.Kind {
	case api.TName:
		return t.Text
	case api.TNumber:
		return strconv.Itoa(t.N)
	case api.TText:
		// It can't be too long: a literal has few bytes.
		literal, _ := quote.Quote(t.Text)
		return literal
	case api.TClass:
		return charset.Show(t.Set)
	case api.TPercent:
		return "%" + t.Text
	case api.TRunes:
		return runesSign + strconv.FormatInt(int64(t.N), 16) + "-" + strconv.FormatUint(t.Set[0], 16) + "}"
	case api.TTimes, api.TLeast, api.TMost:
		return signOf(t.Kind) + strconv.Itoa(t.N)
	case api.TGroup:
		return signOf(t.Kind) + showGroupName(t.Text)
	}
	return signOf(t.Kind)
}

func showGroupName(name string) string {
	if name == "" {
		return ""
	}
	return name + ":"
}
