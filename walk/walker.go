package walk

import "harrow/api"

// A walker tries parts, one within the other, and counts them.
type walker struct {
	net
	root      int
	subject   string
	most      int
	steps     int
	open      int       // parts that have not ended yet
	stopped   api.Errno // why nothing is tried any more
	grown     forest
	isTelling bool
	told      []api.Judgement
}

// from is where the walk's rule goes from a place.
func (w *walker) from(at int) (int, api.Errno) {
	w.steps = 0
	w.grown.back(mark{})
	end := w.ask(w.root, at)
	return end, w.stopped
}

func (w *walker) ask(number, at int) int {
	if !w.mayTry() {
		return failed
	}
	p := &w.parts[number]
	before := w.grown.mark()
	w.open++
	if p.capture.Kind != 0 {
		w.grown.begin(p.capture, at)
	}
	end := p.node.match(w, w.subject, at)
	w.open--
	if end == failed {
		w.grown.back(before)
	} else if p.capture.Kind != 0 {
		w.grown.end(before, end)
	}
	if w.isTelling {
		w.told = append(w.told, api.Judgement{Rule: p.spot.Rule, Node: p.spot.Node, At: at, End: end})
	}
	return end
}

func (w *walker) peek(number, at int) int {
	before := w.grown.mark()
	end := w.ask(number, at)
	w.grown.back(before)
	return end
}

// mayTry counts a step, if there is one left, and room for one more part. A step that neither is left for nor has room is told as the former, which the chapter names first.
func (w *walker) mayTry() bool {
	switch {
	case w.stopped != api.OK:
		return false
	case w.steps == w.most:
		w.stopped = api.ErrTired
		return false
	case w.open == api.MaxOpen:
		w.stopped = api.ErrDeep
		return false
	}
	w.steps++
	return true
}
