package runes_test

import (
	"math"
	"slices"
	"strconv"
	"strings"
	"testing"

	"harrow/api"
	"harrow/runes"
)

// Shapes as they stand in the chapter's examples: [ce-ce b1-bf] [cf-cf 80-89].
func told(l [][]api.Span) string {
	var shapes []string
	for _, shape := range l {
		var spans []string
		for _, s := range shape {
			spans = append(spans, strconv.FormatInt(int64(s.Lo), 16)+"-"+strconv.FormatInt(int64(s.Hi), 16))
		}
		shapes = append(shapes, "["+strings.Join(spans, " ")+"]")
	}
	return strings.Join(shapes, " ")
}

// The chapter's words as they stand: a list of pieces that is cut, here or there, until none is cut any more.
func piecesOf(lo, hi int) [][2]int {
	l := [][2]int{{lo, hi}}
	for _, behind := range []int{0x7f, 0x7ff, 0xffff, 0xd7ff, 0xdfff} {
		l = cutEach(l, func(lo, hi int) int { return behind })
	}
	l = slices.DeleteFunc(l, func(p [2]int) bool { return p[0] >= 0xd800 && p[1] <= 0xdfff })
	for {
		n := len(l)
		l = cutEach(l, func(lo, hi int) int {
			s, _ := encodingOf(lo)
			for _, m := range []int{64, 64 * 64, 64 * 64 * 64}[:len(s)-1] {
				if lo/m == hi/m {
					continue
				}
				if lo%m != 0 {
					return (lo/m+1)*m - 1
				}
				if (hi+1)%m != 0 {
					return hi/m*m - 1
				}
			}
			return -1
		})
		if len(l) == n {
			return l
		}
	}
}

func cutEach(l [][2]int, behind func(lo, hi int) int) [][2]int {
	var out [][2]int
	for _, p := range l {
		if at := behind(p[0], p[1]); at >= p[0] && at < p[1] {
			out = append(out, [2]int{p[0], at}, [2]int{at + 1, p[1]})
		} else {
			out = append(out, p)
		}
	}
	return out
}

func shapesOf(lo, hi int) [][]api.Span {
	var l [][]api.Span
	for _, p := range piecesOf(lo, hi) {
		a, _ := encodingOf(p[0])
		b, _ := encodingOf(p[1])
		var shape []api.Span
		for i := range len(a) {
			shape = append(shape, api.Span{Lo: int(a[i]), Hi: int(b[i])})
		}
		l = append(l, shape)
	}
	return l
}

// The edges of encodings' lengths, of the surrogates, and of the blocks of 64, 4096 and 262144 that pieces are cut into.
func edgeEnds() []int {
	l := edgePoints()
	for _, r := range []int{0x40, 0xc0, 0x3b1, 0x3c9, 0x1000, 0x1040, 0xc000, 0xd000, 0xf000, 0xffc0, 0x20ac, 0x11000, 0x10040, 0x1f600, 0x40000, 0x41000, 0x3ffff, 0x80000, 0x100000, 0x10f000, 0x10ffc0} {
		l = append(l, r-1, r, r+1)
	}
	l = slices.DeleteFunc(l, func(r int) bool { return r < 0 || r > 0x10ffff })
	slices.Sort(l)
	return slices.Compact(l)
}

// Ranges without any order in them, the same ones each time; some short, some long.
func scrambledRanges(n int) [][2]int {
	x := uint64(88172645463325252)
	next := func(below int) int {
		x ^= x << 13
		x ^= x >> 7
		x ^= x << 17
		return int(x % uint64(below))
	}
	var l [][2]int
	for range n {
		lo := next(0x110000)
		l = append(l, [2]int{lo, lo + next(0x110000-lo)}, [2]int{lo, min(lo+next(9000), 0x10ffff)}, [2]int{lo % 0x900, lo%0x900 + next(200)})
	}
	return l
}

func ranges() [][2]int {
	l := scrambledRanges(3000)
	for _, lo := range edgeEnds() {
		for _, hi := range edgeEnds() {
			if lo <= hi {
				l = append(l, [2]int{lo, hi})
			}
		}
	}
	return l
}

// 3.3
func TestShapes(t *testing.T) {
	for _, c := range []struct {
		lo, hi int
		want   string
	}{
		{0x61, 0x7a, "[61-7a]"},
		{0, 0, "[0-0]"},
		{0x3b1, 0x3b1, "[ce-ce b1-b1]"},
		{0x3b1, 0x3c9, "[ce-ce b1-bf] [cf-cf 80-89]"},
		{0x7f, 0x80, "[7f-7f] [c2-c2 80-80]"},
		{0x7ff, 0x800, "[df-df bf-bf] [e0-e0 a0-a0 80-80]"},
		{0xffff, 0x10000, "[ef-ef bf-bf bf-bf] [f0-f0 90-90 80-80 80-80]"},
		{0xd7ff, 0xe000, "[ed-ed 9f-9f bf-bf] [ee-ee 80-80 80-80]"},
		{0xd7ff, 0xdfff, "[ed-ed 9f-9f bf-bf]"},
		{0xd900, 0xe001, "[ee-ee 80-80 80-81]"},
		{0xd800, 0xdfff, ""},
		{0xd800, 0xd800, ""},
		{0xdfff, 0xdfff, ""},
		{0xda00, 0xdb00, ""},
		{0x10ffff, 0x10ffff, "[f4-f4 8f-8f bf-bf bf-bf]"},
		{0, 0x7f, "[0-7f]"},
		{0x80, 0x7ff, "[c2-df 80-bf]"},
		{0x800, 0xffff, "[e0-e0 a0-bf 80-bf] [e1-ec 80-bf 80-bf] [ed-ed 80-9f 80-bf] [ee-ef 80-bf 80-bf]"},
		{0x10000, 0x10ffff, "[f0-f0 90-bf 80-bf 80-bf] [f1-f3 80-bf 80-bf 80-bf] [f4-f4 80-8f 80-bf 80-bf]"},
		{0, 0x10ffff, "[0-7f] [c2-df 80-bf] [e0-e0 a0-bf 80-bf] [e1-ec 80-bf 80-bf] [ed-ed 80-9f 80-bf] [ee-ef 80-bf 80-bf] [f0-f0 90-bf 80-bf 80-bf] [f1-f3 80-bf 80-bf 80-bf] [f4-f4 80-8f 80-bf 80-bf]"},
		{0x0fff, 0x2001, "[e0-e0 bf-bf bf-bf] [e1-e1 80-bf 80-bf] [e2-e2 80-80 80-81]"},
		{0x1001, 0x2fff, "[e1-e1 80-80 81-bf] [e1-e1 81-bf 80-bf] [e2-e2 80-bf 80-bf]"},
		{0x1000, 0x2ffe, "[e1-e1 80-bf 80-bf] [e2-e2 80-be 80-bf] [e2-e2 bf-bf 80-be]"},
		{0x3fffe, 0x40001, "[f0-f0 bf-bf bf-bf be-bf] [f1-f1 80-80 80-80 80-81]"},
	} {
		if got, e := runes.Shapes(c.lo, c.hi); told(got) != c.want || e != api.OK {
			t.Errorf("Shapes(%x, %x): %s, %v, want %s", c.lo, c.hi, told(got), e, c.want)
		}
	}
}

// 3.3
func TestShapesOfRanges(t *testing.T) {
	for _, r := range ranges() {
		got, e := runes.Shapes(r[0], r[1])
		if want := shapesOf(r[0], r[1]); !slices.EqualFunc(got, want, slices.Equal) || e != api.OK {
			t.Fatalf("Shapes(%x, %x): %s, %v, want %s", r[0], r[1], told(got), e, told(want))
		}
	}
}

// 3.3: what is out of bounds is told ahead of ends that are out of order; a surrogate is a right end.
func TestWrongRanges(t *testing.T) {
	for _, c := range []struct {
		lo, hi int
		want   api.Errno
	}{
		{-1, 0, api.ErrRune}, {-1, -1, api.ErrRune}, {0, -1, api.ErrRune}, {-1, -2, api.ErrRune},
		{0, 0x110000, api.ErrRune}, {0x110000, 0, api.ErrRune}, {0x110000, 0x110000, api.ErrRune}, {0x110001, 0x110000, api.ErrRune},
		{math.MinInt, math.MaxInt, api.ErrRune}, {math.MaxInt, math.MinInt, api.ErrRune}, {0x61, math.MaxInt, api.ErrRune}, {math.MinInt, 0x61, api.ErrRune},
		{1 << 32, 1<<32 + 5, api.ErrRune}, {0, 1<<32 + 5, api.ErrRune}, {-1 << 32, 5, api.ErrRune},
		{5, 4, api.ErrRange}, {0x10ffff, 0, api.ErrRange}, {0xdfff, 0xd800, api.ErrRange}, {0xe000, 0xdfff, api.ErrRange}, {1, 0, api.ErrRange}, {0x10ffff, 0x10fffe, api.ErrRange},
		{0xd800, 0xd801, api.OK}, {0x61, 0xd800, api.OK}, {0xdfff, 0xe000, api.OK},
	} {
		l, e := runes.Shapes(c.lo, c.hi)
		if e != c.want || e != api.OK && len(l) != 0 {
			t.Errorf("Shapes(%x, %x): %s, %v, want %v", c.lo, c.hi, told(l), e, c.want)
		}
		p, e := runes.Pattern(c.lo, c.hi)
		if e != c.want || e != api.OK && len(p) != 0 {
			t.Errorf("Pattern(%x, %x): %v, %v, want %v", c.lo, c.hi, p, e, c.want)
		}
	}
}

func inShape(s string, shape []api.Span) bool {
	if len(s) != len(shape) {
		return false
	}
	for i, span := range shape {
		if int(s[i]) < span.Lo || int(s[i]) > span.Hi {
			return false
		}
	}
	return true
}

func shapesWith(s string, l [][]api.Span) int {
	n := 0
	for _, shape := range l {
		if inShape(s, shape) {
			n++
		}
	}
	return n
}

func countOf(l [][]api.Span) int {
	n := 0
	for _, shape := range l {
		texts := 1
		for _, span := range shape {
			texts *= span.Hi - span.Lo + 1
		}
		n += texts
	}
	return n
}

// The code points of lo to hi, counted by what is not left out of them.
func pointsIn(lo, hi int) int {
	surrogates := min(hi, 0xdfff) - max(lo, 0xd800) + 1
	return hi - lo + 1 - max(surrogates, 0)
}

// 3.5: shapes that have each code point of the range, and no more texts than it has code points, have nothing besides.
func TestJustThese(t *testing.T) {
	for _, r := range [][2]int{{0, 0x10ffff}, {0x61, 0x7a}, {0x3b1, 0x3c9}, {0xd800, 0xdfff}, {0xd7ff, 0xe000}, {0x7f, 0x10000}, {0x1001, 0x2ffe}, {0x10001, 0x10fffe}, {0x3ffff, 0x40000}, {0x12345, 0xabcde}} {
		l, _ := runes.Shapes(r[0], r[1])
		for c := range 0x110000 {
			s, is := encodingOf(c)
			if !is {
				continue
			}
			want := 0
			if c >= r[0] && c <= r[1] {
				want = 1
			}
			if n := shapesWith(s, l); n != want {
				t.Fatalf("%x is in %d shapes of %x to %x", c, n, r[0], r[1])
			}
		}
	}
	for _, r := range ranges() {
		l, _ := runes.Shapes(r[0], r[1])
		if countOf(l) != pointsIn(r[0], r[1]) {
			t.Fatalf("the shapes of %x to %x have %d texts, not %d", r[0], r[1], countOf(l), pointsIn(r[0], r[1]))
		}
	}
}

// 3.5
func TestWhatIsInAShapeIsOneEncoding(t *testing.T) {
	for _, r := range [][2]int{{0x70, 0x900}, {0xcfff, 0xe0ff}, {0xfff0, 0x11001}, {0x10f000, 0x10ffff}} {
		l, _ := runes.Shapes(r[0], r[1])
		next := r[0]
		for _, shape := range l {
			texts := []string{""}
			for _, span := range shape {
				var longer []string
				for _, s := range texts {
					for b := span.Lo; b <= span.Hi; b++ {
						longer = append(longer, s+string([]byte{byte(b)}))
					}
				}
				texts = longer
			}
			// Rising: the texts are just the code points' encodings, in their order.
			for _, s := range texts {
				if next == 0xd800 {
					next = 0xe000
				}
				if want, _ := encodingOf(next); s != want {
					t.Fatalf("of %x to %x: %x in place of %x", r[0], r[1], s, want)
				}
				next++
			}
		}
		if next != r[1]+1 {
			t.Fatalf("of %x to %x: ends ahead of %x", r[0], r[1], next)
		}
	}
}

func setOf(span api.Span) api.Set {
	var s api.Set
	for b := span.Lo; b <= span.Hi; b++ {
		s[b/64] |= 1 << (b % 64)
	}
	return s
}

// A pattern from the left, as a tree that is written out: the last part, and all ahead of it.
func joined(op int, parts []api.Pattern) api.Pattern {
	n := len(parts)
	if n == 1 {
		return parts[0]
	}
	return slices.Concat(joined(op, parts[:n-1]), parts[n-1], api.Pattern{{Op: op}})
}

func patternOf(l [][]api.Span) api.Pattern {
	if len(l) == 0 {
		return api.Pattern{{Op: api.PFail}}
	}
	var shapes []api.Pattern
	for _, shape := range l {
		var sets []api.Pattern
		for _, span := range shape {
			sets = append(sets, api.Pattern{{Op: api.PSet, Set: setOf(span)}})
		}
		shapes = append(shapes, joined(api.PSeq, sets))
	}
	return joined(api.PChoice, shapes)
}

// 3.3
func TestPattern(t *testing.T) {
	b := func(lo, hi int) api.Node { return api.Node{Op: api.PSet, Set: setOf(api.Span{Lo: lo, Hi: hi})} }
	seq, or := api.Node{Op: api.PSeq}, api.Node{Op: api.PChoice}
	for _, c := range []struct {
		lo, hi int
		want   api.Pattern
	}{
		{0xd800, 0xdfff, api.Pattern{{Op: api.PFail}}},
		{0x61, 0x7a, api.Pattern{b(0x61, 0x7a)}},
		{0x3b1, 0x3b1, api.Pattern{b(0xce, 0xce), b(0xb1, 0xb1), seq}},
		{0x3b1, 0x3c9, api.Pattern{b(0xce, 0xce), b(0xb1, 0xbf), seq, b(0xcf, 0xcf), b(0x80, 0x89), seq, or}},
		{0x10ffff, 0x10ffff, api.Pattern{b(0xf4, 0xf4), b(0x8f, 0x8f), seq, b(0xbf, 0xbf), seq, b(0xbf, 0xbf), seq}},
		{0x7f, 0x800, api.Pattern{b(0x7f, 0x7f), b(0xc2, 0xdf), b(0x80, 0xbf), seq, or, b(0xe0, 0xe0), b(0xa0, 0xa0), seq, b(0x80, 0x80), seq, or}},
	} {
		if got, e := runes.Pattern(c.lo, c.hi); !slices.Equal(got, c.want) || e != api.OK {
			t.Errorf("Pattern(%x, %x): %v, %v, want %v", c.lo, c.hi, got, e, c.want)
		}
	}
}

// 3.3
func TestPatternOfRanges(t *testing.T) {
	for _, r := range ranges() {
		got, e := runes.Pattern(r[0], r[1])
		if want := patternOf(shapesOf(r[0], r[1])); !slices.Equal(got, want) || e != api.OK {
			t.Fatalf("Pattern(%x, %x): %v, %v, want %v", r[0], r[1], got, e, want)
		}
	}
}

// R4: no two lists share memory, spare room too, be they of one answer or of two.
func TestShapesAreNewMemory(t *testing.T) {
	l, _ := runes.Shapes(0, 0x10ffff)
	other, _ := runes.Shapes(0, 0x10ffff)
	for i := range l {
		spare := l[i][:cap(l[i])]
		for j := range spare {
			spare[j] = api.Span{Lo: -1, Hi: -1}
		}
		if rest := shapesOf(0, 0x10ffff); !slices.EqualFunc(l[i+1:], rest[i+1:], slices.Equal) || !slices.EqualFunc(other, rest, slices.Equal) {
			t.Fatalf("shape %d shares memory", i)
		}
	}
	p, _ := runes.Pattern(0x61, 0x3b1)
	for i := range p[:cap(p)] {
		p[:cap(p)][i] = api.Node{}
	}
	if q, _ := runes.Pattern(0x61, 0x3b1); !slices.Equal(q, patternOf(shapesOf(0x61, 0x3b1))) {
		t.Error("two answers of Pattern share memory:", q)
	}
}
