package packrat

// A table has a row for each rule, each of as many cells.
type table[T any] struct {
	width int
	cells []T
}

func tableOf[T any](rules, width int) table[T] {
	return table[T]{width: width, cells: make([]T, rules*width)}
}

// row is a rule's row. It is cut where the next rule's begins, that nothing can be put behind it into that one.
func (t table[T]) row(rule int) []T {
	from, to := rule*t.width, (rule+1)*t.width
	return t.cells[from:to:to]
}

func (t table[T]) rows() [][]T {
	var rows [][]T
	for rule := range len(t.cells) / t.width {
		rows = append(rows, t.row(rule))
	}
	return rows
}
