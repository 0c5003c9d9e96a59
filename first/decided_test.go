package first_test

import (
	"testing"

	"harrow/api"
	"harrow/first"
)

func decidedIs(t *testing.T, g api.Grammar, one, other string, want bool) {
	t.Helper()
	p, q := readPattern(t, one), readPattern(t, other)
	if is, e := first.Decided(g, p, q); is != want || e != api.OK {
		t.Errorf("Decided(%s, %s): %v, %v, want %v", one, other, is, e, want)
	}
	if got := modelOf(g).decided(p, q); got != want {
		t.Errorf("the model of %s and %s: %v, want %v", one, other, got, want)
	}
}

// 11.2: the chapter's examples.
func TestExamplesOfDecided(t *testing.T) {
	g := read(t, beside)
	decidedIs(t, g, "'ab'", "[0-9]", true)
	decidedIs(t, g, "'ab'", "'ac'", false)
	decidedIs(t, g, "[ab]", "'ac'", true)
}

// 11.2: each two sorts of parts, in both orders.
func TestDecidedOfEachSort(t *testing.T) {
	pairsAreAsMeant(t)
	g := read(t, beside)
	want := [8][8]bool{
		{false, false, false, false, false, false, false, false},
		{false, false, false, false, false, false, false, false},
		{false, false, false, false, false, false, false, false},
		{false, false, false, false, false, false, false, false},
		{false, false, false, false, false, true, true, true},
		{false, false, false, false, true, true, true, true},
		{true, true, true, true, true, true, true, true},
		{true, true, true, true, true, true, true, true},
	}
	for i, one := range pairTexts {
		for j, other := range pairTexts {
			decidedIs(t, g, one, other, want[i][j])
		}
	}
}

// 11.2: a first part that is Empty, that is HeadFail, and neither; a second part that is Empty, and that is not; parts that share no byte, one, and all.
func TestDecided(t *testing.T) {
	g := read(t, "s <- 'ab' s / %e d <- [0-9] h <- 'k' s v <- v")
	for _, c := range []struct {
		one, other string
		want       bool
	}{
		{"%e", "'b'", false},
		{"'a'?", "'b'", false},
		{"'a'*", "'b'", false},
		{"!'a'", "'b'", false},
		{"'a'^0", "'b'", false},
		{"s", "'b'", false},
		{"&s", "d", false},
		{"d", "%e", true},
		{"d", "s", true},
		{"d", "d", true},
		{"d", "'0' 'x'", true},
		{"d+", "d 'x'", true},
		{"d^2", "d", false},
		{"d^2", "'x'", true},
		{"d^2", "'x'?", false},
		{"d d", "'x'", true},
		{"d d", "'9'", false},
		{"d d", "!d", false},
		{"d s", "%e", true},
		{"d 'x'", "%e", false},
		{"h", "'kk'", true},
		{"h h", "'kk'", false},
		{"h h", "'lk'", true},
		{"[a-c] 'x'", "[d-f] 'x'", true},
		{"[a-c] 'x'", "[c-f] 'x'", false},
		{"[a-c] 'x'", "[a-c] 'x'", false},
		{"[a-c] 'x'", ".", false},
		{"[a-c] 'x'", "%f", true},
		{"[a-c] 'x'", "v", true},
		{"[a-c] 'x'", "v / %e", false},
		{"[a-c] 'x'", "[^a-c]", true},
		{"[a-c] 'x'", "[^a-b]", false},
		{"[a-c] 'x'", "[] 'x'", true},
		{"[] 'x'", "[] 'x'", true},
		{"[] 'x'", ". 'x'", true},
		{". 'x'", "[] 'x'", true},
		{". 'x'", ". 'x'", false},
		{".", ".", true},
		{"v", "v", true},
		{"v", "v?", false},
		{"v / 'x'", "'y'", true},
		{"v / 'x'", "'x'", false},
		{"{'a' 'b'}", "{:k: 'b' :}", true},
		{"{'a' 'b'}", "{:k: 'a' :}", false},
		{"'ab' / 'cd'", "'ef' / 'gh'", true},
		{"'ab' / 'cd'", "'ef' / 'ch'", false},
		{"'a' / 'c'", "'ef' / 'ch'", true},
		{"'a'? 'cd'", "'b'", true},
		{"'a'? 'cd'", "'a'", false},
		{"'a'? 'cd'", "'c'", false},
	} {
		decidedIs(t, g, c.one, c.other, c.want)
	}
}

// 11.2: of each two bytes, whether the one is the other tells.
func TestDecidedByEachByte(t *testing.T) {
	g := read(t, beside)
	some := []int{0, 1, 31, 32, 62, 63, 64, 65, 127, 128, 190, 191, 192, 193, 254, 255}
	for b := range 256 {
		for _, c := range some {
			p, q := list(lit(string([]byte{byte(b), 'x'}))), list(lit(string([]byte{byte(c), 'y'})))
			if is, e := first.Decided(g, p, q); is != (b != c) || e != api.OK {
				t.Errorf("Decided of %d and %d: %v, %v", b, c, is, e)
			}
			both := list(lit(string([]byte{byte(c), 'y'})), lit("xx"), op(api.PChoice))
			if is, e := first.Decided(g, p, both); is != (b != c && b != 'x') || e != api.OK {
				t.Errorf("Decided of %d, and %d and x: %v, %v", b, c, is, e)
			}
		}
	}
}

// 11.2: both patterns may be as large, and as deep, as one may be, though a choice of both would be none.
func TestDecidedOfLargestParts(t *testing.T) {
	g := read(t, beside)
	large := append(line(api.PSeq, 1023, lit("a")), op(api.PSub))
	deep := tower(59, op(api.PSub), lit("b"))
	for _, c := range []struct {
		p, q api.Pattern
		want bool
	}{{large, large, false}, {deep, deep, true}, {large, deep, true}, {deep, large, true}} {
		if is, e := first.Decided(g, c.p, c.q); is != c.want || e != api.OK {
			t.Errorf("Decided of %d and %d nodes: %v, %v", len(c.p), len(c.q), is, e)
		}
	}
}

// 11.2: patterns of all sorts, beside grammars of all sorts.
func TestScrambledChoices(t *testing.T) {
	x := newScramble()
	seen := map[bool]int{}
	for range 1500 {
		g := x.grammar(1+x.below(6), 1+x.below(8))
		m := modelOf(g)
		var names []string
		for _, y := range g.Rules {
			names = append(names, y.Name)
		}
		for range 10 {
			p, q := x.pattern(1+x.below(6), names), x.pattern(1+x.below(6), names)
			is, e := first.Decided(g, p, q)
			if is != m.decided(p, q) || e != api.OK {
				t.Fatalf("Decided(%s, %v, %v): %v, %v", text(g), p, q, is, e)
			}
			seen[is]++
		}
	}
	if min(seen[true], seen[false]) < 2000 {
		t.Error("too little was seen:", seen)
	}
}
