package runes

import (
	"unicode/utf8"

	"harrow/api"
	"harrow/charset"
)

// A run is the code points from lo to hi.
type run struct {
	lo, hi rune
}

// Those with encodings of one length, the surrogates left out, rising.
var blocks = [...]run{
	{0, 0x7f},
	{0x80, 0x7ff},
	{0x800, firstSurrogate - 1},
	{lastSurrogate + 1, 0xffff},
	{0x10000, lastPoint},
}

func Shapes(lo, hi int) ([][]api.Span, api.Errno) {
	if !inBounds(lo) || !inBounds(hi) {
		return nil, api.ErrRune
	}
	if lo > hi {
		return nil, api.ErrRange
	}
	var l [][]api.Span
	for _, b := range blocks {
		piece := run{max(b.lo, rune(lo)), min(b.hi, rune(hi))}
		if piece.lo <= piece.hi {
			l = appendShapes(l, piece)
		}
	}
	return l, api.OK
}

func Pattern(lo, hi int) (api.Pattern, api.Errno) {
	shapes, e := Shapes(lo, hi)
	if e != api.OK {
		return nil, e
	}
	if len(shapes) == 0 {
		return api.Pattern{{Op: api.PFail}}, api.OK
	}
	var p api.Pattern
	for i, shape := range shapes {
		p = appendShape(p, shape)
		if i > 0 {
			p = append(p, api.Node{Op: api.PChoice})
		}
	}
	return p, api.OK
}

func appendShapes(l [][]api.Span, piece run) [][]api.Span {
	if at, ok := seam(piece); ok {
		l = appendShapes(l, run{piece.lo, at - 1})
		return appendShapes(l, run{at, piece.hi})
	}
	return append(l, shapeOf(piece))
}

// seam says where the piece, of one block, must be cut (the first code point of the second part), so that in the end each byte goes over its span whatever the others are.
func seam(piece run) (rune, bool) {
	m := rune(1)
	for range utf8.RuneLen(piece.lo) - 1 {
		m *= 64
		first, last := piece.lo/m, piece.hi/m
		if first == last {
			continue
		}
		if piece.lo%m != 0 {
			return (first + 1) * m, true
		}
		if (piece.hi+1)%m != 0 {
			return last * m, true
		}
	}
	return 0, false
}

func shapeOf(piece run) []api.Span {
	lo, hi := string(piece.lo), string(piece.hi)
	var shape []api.Span
	for i := range len(lo) {
		shape = append(shape, api.Span{Lo: int(lo[i]), Hi: int(hi[i])})
	}
	return shape
}

func appendShape(p api.Pattern, shape []api.Span) api.Pattern {
	for i, span := range shape {
		// No error: a span of encodings' bytes is one of bytes, its ends in order.
		set, _ := charset.Range(span.Lo, span.Hi)
		p = append(p, api.Node{Op: api.PSet, Set: set})
		if i > 0 {
			p = append(p, api.Node{Op: api.PSeq})
		}
	}
	return p
}
