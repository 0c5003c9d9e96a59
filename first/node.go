package first

import (
	"harrow/api"
	"harrow/charset"
)

// node is the chapter's table.
func (k known) node(n api.Node, parts []part) api.Firsts {
	switch n.Op {
	case api.PEmpty, api.PPlace:
		return api.Firsts{Empty: true}
	case api.PFail:
		return api.Firsts{HeadFail: true}
	case api.PAny:
		return api.Firsts{Set: charset.Not(api.Set{}), HeadFail: true}
	case api.PText:
		return api.Firsts{Set: charset.Of(n.Text[:1]), HeadFail: len(n.Text) == 1}
	case api.PSet:
		return api.Firsts{Set: n.Set, HeadFail: true}
	case api.PCall:
		return k.rules[k.numbers[n.Text]]
	case api.PSeq:
		return sequence(parts[0], parts[1])
	case api.PChoice:
		return choice(parts[0], parts[1])
	}
	return above(n, parts[0].Firsts)
}

// above is the table's rows of nodes with one part, in the order of how much of what is known of the part they leave: whatever a case takes away, those ahead of it take away, too.
func above(n api.Node, x api.Firsts) api.Firsts {
	switch like(n) {
	case api.PEmpty, api.PNot:
		x.Set = api.Set{}
		fallthrough
	case api.PStar, api.POpt, api.PMost:
		x.Empty = true
		fallthrough
	case api.PTimes, api.PLeast:
		x.HeadFail = false
	}
	return x
}

// like says which kind a node is as, where its N makes it so: PTimes and PLeast stay what they are above 1 alone, since then the part may fail behind its first time.
func like(n api.Node) int {
	switch {
	case n.N == 0 && (n.Op == api.PTimes || n.Op == api.PMost):
		return api.PEmpty
	case n.N == 0 && n.Op == api.PLeast:
		return api.PStar
	case n.N == 1 && (n.Op == api.PTimes || n.Op == api.PLeast):
		return api.PPlus
	}
	return n.Op
}

func sequence(x, y part) api.Firsts {
	whole := api.Firsts{
		Set:      x.Set,
		Empty:    x.Empty && y.Empty,
		HeadFail: x.HeadFail && !y.canFail,
	}
	if x.Empty {
		whole.Set = charset.Union(x.Set, y.Set)
	}
	return whole
}

func choice(x, y part) api.Firsts {
	return api.Firsts{
		Set:      charset.Union(x.Set, y.Set),
		Empty:    x.Empty || y.Empty,
		HeadFail: x.HeadFail && y.HeadFail,
	}
}
