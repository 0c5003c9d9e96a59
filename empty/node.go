package empty

import "harrow/api"

// node is the chapter's table.
func (k known) node(n api.Node, parts []api.Emptiness) api.Emptiness {
	switch n.Op {
	case api.PEmpty, api.PPlace:
		return nothing()
	case api.PFail:
		return api.Emptiness{CanFail: true, Least: beyond}
	case api.PAny, api.PSet:
		return exactly(1)
	case api.PText:
		return exactly(len(n.Text))
	case api.PCall:
		return k.rules[k.numbers[n.Text]]
	case api.PSeq:
		return sequence(parts[0], parts[1])
	case api.PChoice:
		return choice(parts[0], parts[1])
	}
	return above(n, parts[0])
}

// above is the table's rows of nodes with one part.
func above(n api.Node, x api.Emptiness) api.Emptiness {
	switch n.Op {
	case api.PStar:
		return atLeast(0, x)
	case api.PPlus:
		return atLeast(1, x)
	case api.POpt:
		return atMost(1, x)
	case api.PAnd:
		return api.Emptiness{Nullable: true, CanFail: x.CanFail}
	case api.PNot:
		return api.Emptiness{Nullable: true, CanFail: true}
	case api.PTimes:
		return repeated(n.N, x)
	case api.PLeast:
		return atLeast(n.N, x)
	case api.PMost:
		return atMost(n.N, x)
	}
	return x
}

func nothing() api.Emptiness {
	return api.Emptiness{Nullable: true}
}

func exactly(n int) api.Emptiness {
	return api.Emptiness{CanFail: true, Least: n, Most: n}
}

func sequence(x, y api.Emptiness) api.Emptiness {
	return api.Emptiness{
		Nullable: x.Nullable && y.Nullable,
		CanFail:  x.CanFail || y.CanFail,
		Least:    cutLeast(sum(x.Least, y.Least)),
		Most:     cutMost(sum(x.Most, y.Most)),
	}
}

func choice(x, y api.Emptiness) api.Emptiness {
	return api.Emptiness{
		Nullable: x.Nullable || y.Nullable,
		CanFail:  x.CanFail && y.CanFail,
		Least:    lesser(x.Least, y.Least),
		Most:     greater(x.Most, y.Most),
	}
}

func repeated(n int, x api.Emptiness) api.Emptiness {
	if n == 0 {
		return nothing()
	}
	x.Least = cutLeast(product(n, x.Least))
	x.Most = cutMost(product(n, x.Most))
	return x
}

// atLeast goes on behind n times: whatever can take a byte has no bound then.
func atLeast(n int, x api.Emptiness) api.Emptiness {
	whole := repeated(n, x)
	if x.Most != 0 {
		whole.Most = beyond
	}
	return whole
}

func atMost(n int, x api.Emptiness) api.Emptiness {
	return api.Emptiness{Nullable: true, Most: repeated(n, x).Most}
}
