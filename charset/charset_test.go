package charset_test

import (
	"math"
	"slices"
	"strings"
	"testing"

	"harrow/api"
	"harrow/charset"
)

// A plain model of a set, so that what the package says is held against something that it did not make.
type members [256]bool

func model(in func(b int) bool) members {
	var m members
	for b := range m {
		m[b] = in(b)
	}
	return m
}

func bitsOf(s api.Set) members {
	return model(func(b int) bool { return s[b/64]>>(b%64)&1 == 1 })
}

func (m members) set() api.Set {
	var s api.Set
	for b, in := range m {
		if in {
			s[b/64] |= 1 << (b % 64)
		}
	}
	return s
}

func (m members) list() []int {
	var l []int
	for b, in := range m {
		if in {
			l = append(l, b)
		}
	}
	return l
}

func edgeBytes() []int {
	return []int{0, 1, 31, 32, 62, 63, 64, 65, 126, 127, 128, 129, 191, 192, 193, 254, 255}
}

// The empty and the full set, each byte alone, spans between edges, patterns of bits, and each one's complement.
func samples() []api.Set {
	l := []api.Set{{}}
	for b := range 256 {
		l = append(l, model(func(c int) bool { return c == b }).set())
	}
	for _, lo := range edgeBytes() {
		for _, hi := range edgeBytes() {
			if lo < hi {
				l = append(l, model(func(b int) bool { return lo <= b && b <= hi }).set())
			}
		}
	}
	for _, step := range []int{2, 3, 7, 64} {
		l = append(l, model(func(b int) bool { return b%step == 0 }).set())
	}
	l = append(l, scrambled(40)...)
	for _, s := range l[:len(l):len(l)] {
		l = append(l, api.Set{^s[0], ^s[1], ^s[2], ^s[3]})
	}
	return l
}

// Sets without any order in them, the same ones each time.
func scrambled(n int) []api.Set {
	x := uint64(88172645463325252)
	var l []api.Set
	for range n {
		var s api.Set
		for i := range s {
			x ^= x << 13
			x ^= x >> 7
			x ^= x << 17
			s[i] = x
		}
		l = append(l, s, api.Set{s[0] & s[1] & s[2], 0, s[1] & s[2] & s[3], 0})
	}
	return l
}

// Few enough that all pairs and triples of them can be gone over.
func fewSamples() []api.Set {
	l := []api.Set{{}, {^uint64(0), ^uint64(0), ^uint64(0), ^uint64(0)}}
	for _, b := range []int{0, 63, 64, 127, 128, 255} {
		l = append(l, model(func(c int) bool { return c == b }).set(), model(func(c int) bool { return c <= b }).set())
	}
	return append(l, scrambled(5)...)
}

func sameMembers(t *testing.T, what string, got api.Set, in func(b int) bool) {
	t.Helper()
	if want := model(in); bitsOf(got) != want {
		t.Errorf("%s: has %v, want %v", what, bitsOf(got).list(), want.list())
	}
}

// 1.1
func TestOf(t *testing.T) {
	for _, text := range []string{"", "a", "banana", "\x00\x3f\x40\x7f\x80\xff", "é€\xff\xfe", strings.Repeat("xyz", api.MaxText) + "!"} {
		sameMembers(t, "Of", charset.Of(text), func(b int) bool { return strings.IndexByte(text, byte(b)) >= 0 })
	}
	for b := range 256 {
		sameMembers(t, "Of one byte", charset.Of(string([]byte{byte(b)})), func(c int) bool { return b == c })
	}
}

// 1.1
func TestRange(t *testing.T) {
	for lo := -2; lo < 259; lo++ {
		for hi := -2; hi < 259; hi++ {
			s, e := charset.Range(lo, hi)
			if lo >= 0 && lo <= hi && hi <= 255 {
				if e != api.OK {
					t.Errorf("Range(%d, %d): %v", lo, hi, e)
				}
				sameMembers(t, "Range", s, func(b int) bool { return lo <= b && b <= hi })
			} else if e != api.ErrRange || s != (api.Set{}) {
				t.Errorf("Range(%d, %d): %v, %v", lo, hi, s, e)
			}
		}
	}
	for _, c := range [][2]int{{math.MinInt, math.MaxInt}, {0, math.MaxInt}, {math.MinInt, 255}, {math.MaxInt, math.MinInt}, {math.MaxInt, math.MaxInt}, {256, 300}, {-5, -1}} {
		if s, e := charset.Range(c[0], c[1]); e != api.ErrRange || s != (api.Set{}) {
			t.Errorf("Range(%d, %d): %v, %v", c[0], c[1], s, e)
		}
	}
}

// 1.1
func TestHas(t *testing.T) {
	for _, s := range samples() {
		m := bitsOf(s)
		for b := -300; b < 600; b++ {
			want := b >= 0 && b <= 255 && m[b]
			if charset.Has(s, b) != want {
				t.Fatalf("Has(%v, %d) is not %v", s, b, want)
			}
		}
		for _, b := range []int{math.MinInt, math.MaxInt, 1 << 32, -1 << 32, 1<<32 + 65} {
			if charset.Has(s, b) {
				t.Fatalf("Has(%v, %d)", s, b)
			}
		}
	}
}

// 1.2
func TestPutTogether(t *testing.T) {
	for _, a := range fewSamples() {
		m := bitsOf(a)
		sameMembers(t, "Not", charset.Not(a), func(b int) bool { return !m[b] })
		for _, c := range fewSamples() {
			n := bitsOf(c)
			sameMembers(t, "Union", charset.Union(a, c), func(b int) bool { return m[b] || n[b] })
			sameMembers(t, "Meet", charset.Meet(a, c), func(b int) bool { return m[b] && n[b] })
			sameMembers(t, "Less", charset.Less(a, c), func(b int) bool { return m[b] && !n[b] })
		}
	}
}

// 1.2
func TestApartAndWithin(t *testing.T) {
	for _, a := range fewSamples() {
		for _, c := range fewSamples() {
			m, n := bitsOf(a), bitsOf(c)
			apart, within := true, true
			for b := range 256 {
				apart = apart && !(m[b] && n[b])
				within = within && (!m[b] || n[b])
			}
			if charset.Apart(a, c) != apart {
				t.Errorf("Apart(%v, %v) is not %v", a, c, apart)
			}
			if charset.Within(a, c) != within {
				t.Errorf("Within(%v, %v) is not %v", a, c, within)
			}
		}
	}
}

// 1.2
func TestEmptyAndFull(t *testing.T) {
	for _, s := range samples() {
		n := len(bitsOf(s).list())
		if charset.Empty(s) != (n == 0) || charset.Full(s) != (n == 256) {
			t.Errorf("of %d bytes: Empty %v, Full %v", n, charset.Empty(s), charset.Full(s))
		}
	}
}

// 1.3
func TestCountAndEnds(t *testing.T) {
	for _, s := range samples() {
		l := bitsOf(s).list()
		if charset.Count(s) != len(l) {
			t.Errorf("Count: %d, want %d", charset.Count(s), len(l))
		}
		least, greatest, single := 0, 0, 0
		if len(l) > 0 {
			least, greatest = l[0], l[len(l)-1]
		}
		if len(l) == 1 {
			single = l[0]
		}
		if b, ok := charset.Least(s); b != least || ok != (len(l) > 0) {
			t.Errorf("Least of %v: %d, %v", l, b, ok)
		}
		if b, ok := charset.Greatest(s); b != greatest || ok != (len(l) > 0) {
			t.Errorf("Greatest of %v: %d, %v", l, b, ok)
		}
		if b, ok := charset.Single(s); b != single || ok != (len(l) == 1) {
			t.Errorf("Single of %v: %d, %v", l, b, ok)
		}
	}
}

// 1.4
func TestBytes(t *testing.T) {
	for _, s := range samples() {
		var want []byte
		for _, b := range bitsOf(s).list() {
			want = append(want, byte(b))
		}
		if charset.Bytes(s) != string(want) {
			t.Errorf("Bytes: %q, want %q", charset.Bytes(s), want)
		}
	}
}

// 1.4
func TestEach(t *testing.T) {
	for _, s := range samples() {
		want := bitsOf(s).list()
		each := charset.Each(s)
		for range 2 {
			if got := slices.Collect(each); !slices.Equal(got, want) {
				t.Fatalf("Each: %v, want %v", got, want)
			}
		}
	}
}

// 1.4
func TestEachLeftEarly(t *testing.T) {
	for _, s := range fewSamples() {
		want := bitsOf(s).list()
		each := charset.Each(s)
		for stop := range want {
			var got []int
			each(func(b int) bool {
				got = append(got, b)
				return len(got) <= stop
			})
			if !slices.Equal(got, want[:stop+1]) {
				t.Fatalf("left behind %d: %v", stop, got)
			}
		}
		if got := slices.Collect(each); !slices.Equal(got, want) {
			t.Fatalf("gone over again: %v, want %v", got, want)
		}
	}
}

// 1.4
func TestEachWithinItself(t *testing.T) {
	each := charset.Each(charset.Of("az"))
	var got []int
	for a := range each {
		for b := range each {
			got = append(got, a, b)
		}
	}
	if !slices.Equal(got, []int{'a', 'a', 'a', 'z', 'z', 'a', 'z', 'z'}) {
		t.Error(got)
	}
}

// 1.4
func TestSpans(t *testing.T) {
	for _, s := range samples() {
		m := bitsOf(s)
		var want []api.Span
		for lo := 0; lo < 256; lo++ {
			if !m[lo] || lo > 0 && m[lo-1] {
				continue
			}
			hi := lo
			for hi < 255 && m[hi+1] {
				hi++
			}
			want = append(want, api.Span{Lo: lo, Hi: hi})
		}
		if got := charset.Spans(s); !slices.Equal(got, want) {
			t.Errorf("Spans: %v, want %v", got, want)
		}
	}
}

// R4
func TestSpansAreNewEachTime(t *testing.T) {
	s := charset.Of("abcxz")
	l := charset.Spans(s)
	for i := range l[:cap(l)] {
		l[:cap(l)][i] = api.Span{Lo: -1, Hi: -1}
	}
	want := []api.Span{{Lo: 'a', Hi: 'c'}, {Lo: 'x', Hi: 'x'}, {Lo: 'z', Hi: 'z'}}
	if got := charset.Spans(s); !slices.Equal(got, want) {
		t.Error(got)
	}
}

// 1.4
func TestFromSpans(t *testing.T) {
	for _, c := range []struct {
		l    []api.Span
		want string
	}{
		{nil, ""},
		{[]api.Span{}, ""},
		{[]api.Span{{Lo: 'a', Hi: 'a'}}, "a"},
		{[]api.Span{{Lo: 'x', Hi: 'z'}, {Lo: 'a', Hi: 'b'}}, "abxyz"},
		{[]api.Span{{Lo: 'a', Hi: 'd'}, {Lo: 'c', Hi: 'f'}, {Lo: 'b', Hi: 'c'}}, "abcdef"},
		{[]api.Span{{Lo: 0, Hi: 0}, {Lo: 63, Hi: 64}, {Lo: 127, Hi: 128}, {Lo: 255, Hi: 255}}, "\x00?@\x7f\x80\xff"},
	} {
		given := slices.Clone(c.l)
		s, e := charset.FromSpans(c.l)
		if e != api.OK {
			t.Errorf("FromSpans(%v): %v", c.l, e)
		}
		sameMembers(t, "FromSpans", s, func(b int) bool { return strings.IndexByte(c.want, byte(b)) >= 0 })
		if !slices.Equal(given, c.l) {
			t.Errorf("the list became %v", c.l)
		}
	}
	if s, e := charset.FromSpans([]api.Span{{Lo: 0, Hi: 255}}); e != api.OK || !charset.Full(s) {
		t.Error("all bytes:", s, e)
	}
}

// 1.4
func TestFromSpansOfWhatIsNone(t *testing.T) {
	for _, bad := range []api.Span{{Lo: -1, Hi: 0}, {Lo: -1, Hi: -1}, {Lo: 0, Hi: 256}, {Lo: 256, Hi: 256}, {Lo: 5, Hi: 4}, {Lo: 255, Hi: 0}, {Lo: math.MinInt, Hi: math.MaxInt}} {
		for _, l := range [][]api.Span{{bad}, {{Lo: 'a', Hi: 'z'}, bad}, {bad, {Lo: 'a', Hi: 'z'}}} {
			if s, e := charset.FromSpans(l); e != api.ErrClass || s != (api.Set{}) {
				t.Errorf("FromSpans(%v): %v, %v", l, s, e)
			}
		}
	}
}

// 1.4
func TestFromSpansAtItsLimit(t *testing.T) {
	l := make([]api.Span, api.MaxItems, api.MaxItems+1)
	l[len(l)-1] = api.Span{Lo: 7, Hi: 7}
	if s, e := charset.FromSpans(l); e != api.OK || charset.Bytes(s) != "\x00\x07" {
		t.Error("of MaxItems members:", charset.Bytes(s), e)
	}
	// What lies behind the list's length is not looked at.
	l[:cap(l)][api.MaxItems] = api.Span{Lo: 1, Hi: 0}
	if _, e := charset.FromSpans(l); e != api.OK {
		t.Error("with spare room:", e)
	}
	l = l[:cap(l)]
	if s, e := charset.FromSpans(l); e != api.ErrLong || s != (api.Set{}) {
		t.Error("of one more, which is no span:", s, e)
	}
	l[0], l[api.MaxItems] = api.Span{Lo: 1, Hi: 0}, api.Span{}
	if s, e := charset.FromSpans(l); e != api.ErrLong || s != (api.Set{}) {
		t.Error("the length is told ahead of a wrong member:", s, e)
	}
}

// 1.8
func TestAlgebraOfTwo(t *testing.T) {
	for _, a := range fewSamples() {
		if charset.Not(charset.Not(a)) != a {
			t.Error("Not of Not", a)
		}
		for _, b := range fewSamples() {
			if charset.Union(a, b) != charset.Union(b, a) || charset.Meet(a, b) != charset.Meet(b, a) {
				t.Error("order", a, b)
			}
			if charset.Not(charset.Union(a, b)) != charset.Meet(charset.Not(a), charset.Not(b)) {
				t.Error("Not of a union", a, b)
			}
			if charset.Less(a, b) != charset.Meet(a, charset.Not(b)) {
				t.Error("Less", a, b)
			}
			if charset.Count(charset.Union(a, b))+charset.Count(charset.Meet(a, b)) != charset.Count(a)+charset.Count(b) {
				t.Error("Count", a, b)
			}
		}
	}
}

// 1.8
func TestAlgebraOfThree(t *testing.T) {
	for _, a := range fewSamples() {
		for _, b := range fewSamples() {
			for _, c := range fewSamples() {
				if charset.Union(a, charset.Union(b, c)) != charset.Union(charset.Union(a, b), c) ||
					charset.Meet(a, charset.Meet(b, c)) != charset.Meet(charset.Meet(a, b), c) {
					t.Fatal("brackets", a, b, c)
				}
				if charset.Meet(a, charset.Union(b, c)) != charset.Union(charset.Meet(a, b), charset.Meet(a, c)) ||
					charset.Union(a, charset.Meet(b, c)) != charset.Meet(charset.Union(a, b), charset.Union(a, c)) {
					t.Fatal("over each other", a, b, c)
				}
			}
		}
	}
}

// 1.9
func TestThereAndBack(t *testing.T) {
	l := samples()
	for lo := range 256 {
		for hi := lo; hi < 256; hi++ {
			l = append(l, model(func(b int) bool { return lo <= b && b <= hi }).set())
		}
	}
	for _, s := range l {
		if got, f := charset.Parse(charset.Show(s)); got != s || f != (api.Fault{}) {
			t.Fatalf("Parse(%s): %v, %v", charset.Show(s), got, f)
		}
		if got, e := charset.FromSpans(charset.Spans(s)); got != s || e != api.OK {
			t.Fatalf("FromSpans(%v): %v, %v", charset.Spans(s), got, e)
		}
		if charset.Of(charset.Bytes(s)) != s {
			t.Fatalf("Of(%q): %v", charset.Bytes(s), charset.Of(charset.Bytes(s)))
		}
	}
}
