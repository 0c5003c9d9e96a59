package packrat

import "harrow/api"

// A memo is what rules said at places. A run comes to few of all pairs of a rule and a place, of which there may be very many: so a cell of its table is for places that lie side by side, and is filled only where a rule said something at one of them.
type memo struct {
	table[*stretch]
	size int // how many things were said
}

// Small, as rules may say something far and wide; not too small, as each of the table's cells takes its room even where nothing is said.
const side = 1 << 6

type stretch [side]said

// A said is where a rule goes from a place, if that is known.
type said struct {
	isKnown bool
	end     int
}

func memoOf(rules, places int) memo {
	return memo{table: tableOf[*stretch](rules, (places-1)/side+1)}
}

func (m *memo) keep(rule, at, end int) {
	cell := &m.row(rule)[at/side]
	if *cell == nil {
		*cell = &stretch{}
	}
	(*cell)[at%side] = said{true, end}
	m.size++
}

func (m *memo) recall(rule, at int) said {
	cell := m.row(rule)[at/side]
	if cell == nil {
		return said{}
	}
	return cell[at%side]
}

// told is all that was said, by rules and then by places.
func (m *memo) told() []api.Row {
	rows := make([]api.Row, 0, m.size)
	for rule, cells := range m.rows() {
		for i, cell := range cells {
			if cell == nil {
				continue
			}
			for k, x := range cell {
				if x.isKnown {
					rows = append(rows, api.Row{Rule: rule, At: i*side + k, End: x.end})
				}
			}
		}
	}
	return rows
}
