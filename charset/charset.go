// Package charset is layer 1: see shared/doc/01-charset.md.
package charset

import (
	"iter"
	"math/bits"

	"harrow/api"
)

const (
	lastByte = 255
	wordBits = 64
)

func Of(s string) api.Set {
	var set api.Set
	// By index: a range over the text would tell runes, not bytes.
	for i := 0; i < len(s); i++ {
		set = with(set, int(s[i]))
	}
	return set
}

func Range(lo, hi int) (api.Set, api.Errno) {
	if !spanOfBytes(lo, hi) {
		return api.Set{}, api.ErrRange
	}
	return fill(api.Set{}, lo, hi), api.OK
}

func Has(s api.Set, b int) bool {
	return isByte(b) && s[b/wordBits]&bit(b) != 0
}

func Union(a, b api.Set) api.Set {
	for i := range a {
		a[i] |= b[i]
	}
	return a
}

func Meet(a, b api.Set) api.Set {
	for i := range a {
		a[i] &= b[i]
	}
	return a
}

func Less(a, b api.Set) api.Set {
	return Meet(a, Not(b))
}

func Not(a api.Set) api.Set {
	for i := range a {
		a[i] = ^a[i]
	}
	return a
}

func Apart(a, b api.Set) bool {
	return Empty(Meet(a, b))
}

func Within(a, b api.Set) bool {
	return Meet(a, b) == a
}

func Empty(s api.Set) bool {
	return s == api.Set{}
}

func Full(s api.Set) bool {
	return s == Not(api.Set{})
}

func Count(s api.Set) int {
	n := 0
	for _, word := range s {
		n += bits.OnesCount64(word)
	}
	return n
}

func Least(s api.Set) (int, bool) {
	for b := range Each(s) {
		return b, true
	}
	return 0, false
}

func Greatest(s api.Set) (int, bool) {
	for b := lastByte; b >= 0; b-- {
		if Has(s, b) {
			return b, true
		}
	}
	return 0, false
}

func Single(s api.Set) (int, bool) {
	if Count(s) != 1 {
		return 0, false
	}
	return Least(s)
}

func Bytes(s api.Set) string {
	var l []byte
	for b := range Each(s) {
		l = append(l, byte(b))
	}
	return string(l)
}

func Each(s api.Set) iter.Seq[int] {
	return func(yield func(int) bool) {
		for b := range lastByte + 1 {
			if Has(s, b) && !yield(b) {
				return
			}
		}
	}
}

func Spans(s api.Set) []api.Span {
	var l []api.Span
	for b := range Each(s) {
		// Bytes come rising, so one that touches a span touches the last one.
		if n := len(l); n > 0 && l[n-1].Hi+1 == b {
			l[n-1].Hi = b
		} else {
			l = append(l, api.Span{Lo: b, Hi: b})
		}
	}
	return l
}

func FromSpans(l []api.Span) (api.Set, api.Errno) {
	if len(l) > api.MaxItems {
		return api.Set{}, api.ErrLong
	}
	var s api.Set
	for _, span := range l {
		if !spanOfBytes(span.Lo, span.Hi) {
			return api.Set{}, api.ErrClass
		}
		s = fill(s, span.Lo, span.Hi)
	}
	return s, api.OK
}

func isByte(b int) bool {
	return b >= 0 && b <= lastByte
}

func spanOfBytes(lo, hi int) bool {
	return isByte(lo) && isByte(hi) && lo <= hi
}

// The three below are for bytes alone: whoever calls them has looked.

func bit(b int) uint64 {
	return 1 << uint(b%wordBits)
}

func with(s api.Set, b int) api.Set {
	s[b/wordBits] |= bit(b)
	return s
}

func fill(s api.Set, lo, hi int) api.Set {
	for b := lo; b <= hi; b++ {
		s = with(s, b)
	}
	return s
}
