package rewrite

// A worker uses rules at the first node at which one can be used, again and again.
type worker struct {
	try    func(*part) (*part, int)
	goOn   func(rule int) bool // whether more may be used behind this one
	isOver bool
}

// work goes through the part from the front on: a node comes behind its parts. What a rule made is gone through anew, but for what is done in it; nothing ahead of it has changed.
func (w *worker) work(t *part) *part {
	for !t.isDone && !w.isOver {
		t = t.over(w.work)
		if !w.isOver {
			t = w.use(t)
		}
	}
	return t
}

// use takes a part in whose parts no rule can be used.
func (w *worker) use(t *part) *part {
	x, number := w.try(t)
	if number == 0 {
		t.isDone = true
		return t
	}
	w.isOver = !w.goOn(number)
	return x
}
