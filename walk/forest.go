package walk

import "harrow/api"

// A forest is the captures so far, and how many of them stand right within the one that is open (or within none).
type forest struct {
	caps []api.Cap
	kids int
}

// A mark is a forest as it was: what came later is cut off from its captures.
type mark struct{ caps, kids int }

func (f *forest) mark() mark { return mark{len(f.caps), f.kids} }

func (f *forest) back(to mark) { f.caps, f.kids = f.caps[:to.caps], to.kids }

func (f *forest) begin(c api.Cap, at int) {
	c.From = at
	f.caps = append(f.caps, c)
	f.kids = 0
}

// end closes the capture that was begun at a mark.
func (f *forest) end(begun mark, at int) {
	c := &f.caps[begun.caps]
	c.To, c.Kids = at, f.kids
	f.kids = begun.kids + 1
}
