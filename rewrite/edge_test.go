package rewrite_test

import (
	"slices"
	"testing"

	"harrow/api"
	"harrow/tree"
)

func all() api.Set { return api.Set{1<<64 - 1, 1<<64 - 1, 1<<64 - 1, 1<<64 - 1} }

func one(b int) api.Set {
	var s api.Set
	s[b/64] = 1 << (b % 64)
	return s
}

func others(b int) api.Set {
	s := all()
	s[b/64] &^= 1 << (b % 64)
	return s
}

// S1, rules 1 and 8: sets that are empty, full, of one byte, of all bytes but one, with each byte.
func TestSets(t *testing.T) {
	any, call := op(api.PAny), call("x")
	simpler(t, list(set(api.Set{})), list(op(api.PFail)), used(1))
	simpler(t, list(set(all())), list(any), used(1))
	for b := range 256 {
		single, rest, text := set(one(b)), set(others(b)), lit(string([]byte{byte(b)}))
		for _, n := range []api.Node{single, rest, text} {
			stays(t, list(n))
			both := n
			if n == text {
				both = single
			}
			becomes(t, list(n, n, op(api.PChoice)), list(both), 8)
			simpler(t, list(n, any, op(api.PChoice)), list(any), used(8, 1))
			simpler(t, list(any, n, op(api.PChoice)), list(any), used(8, 1))
			simpler(t, list(call, n, op(api.PChoice), any, op(api.PChoice)), list(call, any, op(api.PChoice)), used(8, 1))
			simpler(t, list(n, set(api.Set{}), op(api.PChoice)), list(n), used(1, 6))
			simpler(t, list(set(api.Set{}), n, op(api.PChoice)), list(n), used(1, 6))
			simpler(t, list(n, set(all()), op(api.PChoice)), list(any), used(1, 8, 1))
		}
		for _, p := range []api.Pattern{list(single, rest, op(api.PChoice)), list(rest, text, op(api.PChoice))} {
			becomes(t, p, list(set(all())), 8)
			simpler(t, p, list(any), used(8, 1))
			simpler(t, slices.Concat(list(call), p[:1], list(op(api.PChoice)), p[1:]), list(call, any, op(api.PChoice)), used(8, 1))
		}
		// The byte of the same bit in the next word, too.
		far := one((b + 64) % 256)
		both := set(setOf(members(single), members(set(far))))
		becomes(t, list(single, set(far), op(api.PChoice)), list(both), 8)
		becomes(t, list(set(far), text, op(api.PChoice)), list(both), 8)
	}
}

// S1, rule 8: all bytes, one by one, each beside those ahead of it, and behind what is no byte pattern.
func TestAllBytes(t *testing.T) {
	var parts []api.Pattern
	for b := range 256 {
		parts = append(parts, list(lit(string([]byte{byte(b)}))))
	}
	counts := make([]int, 16)
	counts[0], counts[7] = 1, 255
	simpler(t, row(api.PChoice, parts...), list(op(api.PAny)), counts)
	simpler(t, row(api.PChoice, append([]api.Pattern{list(lit("ab"))}, parts...)...), list(lit("ab"), op(api.PAny), op(api.PChoice)), counts)
	counts = make([]int, 16)
	counts[7] = 254
	simpler(t, row(api.PChoice, parts[:255]...), list(set(others(255))), counts)
	simpler(t, row(api.PChoice, parts[1:]...), list(set(others(0))), counts)
}

// S1, rule 8: PText of one byte and of two, and a set beside a choice whose second part is no byte pattern.
func TestBytePatterns(t *testing.T) {
	x := call("x")
	bytes := []api.Node{lit("a"), lit("\x00"), lit("\xff"), lit("\n"), op(api.PAny), set(one('b')), set(others('b'))}
	not := []api.Pattern{list(lit("ab")), list(lit("\xc3\xa4")), list(lit(times("a", 255))), list(x), list(lit("a"), op(api.PSub)), list(lit("a"), op(api.PPlus)), list(lit("a"), counted(api.PTimes, 2)), list(op(api.PAny), op(api.PNot)), list(op(api.PAny), op(api.PAnd)), list(x, op(api.PAny), op(api.PSeq)), list(set(one('b')), x, op(api.PSeq))}
	for _, n := range bytes {
		for _, p := range not {
			stays(t, slices.Concat(list(n), p, list(op(api.PChoice))))
			stays(t, slices.Concat(p, list(n, op(api.PChoice))))
			for _, y := range bytes {
				stays(t, slices.Concat(list(n), p, list(op(api.PChoice), y, op(api.PChoice))))
				stays(t, slices.Concat(p, list(n, op(api.PChoice)), p, list(op(api.PChoice), y, op(api.PChoice))))
				union := list(set(setOf(members(n), members(y))))
				becomes(t, slices.Concat(p, list(n, op(api.PChoice), y, op(api.PChoice))), slices.Concat(p, union, list(op(api.PChoice))), 8)
				becomes(t, slices.Concat(p, p, list(op(api.PChoice), n, op(api.PChoice), y, op(api.PChoice))), slices.Concat(p, p, list(op(api.PChoice)), union, list(op(api.PChoice))), 8)
				becomes(t, slices.Concat(list(n, y, op(api.PChoice)), p, list(op(api.PChoice))), slices.Concat(union, p, list(op(api.PChoice))), 8)
			}
		}
	}
}

// S1, rules 2 and 3: each number that there may be.
func TestNumbers(t *testing.T) {
	x := call("x")
	for n := range api.MaxTimes + 1 {
		exact, least, most := list(x, counted(api.PTimes, n)), list(x, counted(api.PLeast, n)), list(x, counted(api.PMost, n))
		switch n {
		case 0:
			simpler(t, exact, list(op(api.PEmpty)), used(2))
			simpler(t, least, list(x, op(api.PStar)), used(3))
			simpler(t, most, list(op(api.PEmpty)), used(2))
		case 1:
			simpler(t, exact, list(x), used(3))
			simpler(t, least, list(x, op(api.PPlus)), used(3))
			simpler(t, most, list(x, op(api.POpt)), used(3))
		default:
			stays(t, exact)
			stays(t, least)
			stays(t, most)
		}
		stays(t, list(x, counted(api.PPick, n)))
	}
}

// S1, rule 9: texts of together just MaxLiteral bytes, of one more, and either of them of MaxLiteral already; alone, and behind something else.
func TestLongTexts(t *testing.T) {
	x, seq := call("x"), op(api.PSeq)
	const most = api.MaxLiteral
	for n := 1; n <= most; n++ {
		a, b, more := lit(times("a", n)), lit(times("b", most-n)), lit(times("b", most-n+1))
		stays(t, list(a, more, seq))
		stays(t, list(x, a, seq, more, seq))
		if n == most {
			break
		}
		both := lit(a.Text + b.Text)
		simpler(t, list(a, b, seq), list(both), used(9))
		simpler(t, list(x, a, seq, b, seq), list(x, both, seq), used(9))
		simpler(t, list(a, b, seq, more, seq), list(both, more, seq), used(9))
		simpler(t, list(more, a, seq, b, seq), list(more, both, seq), used(9))
	}
	full, short := lit(times("a", most)), lit("b")
	for _, p := range []api.Pattern{list(full, short, seq), list(short, full, seq), list(full, full, seq), list(x, full, seq, short, seq), list(x, short, seq, full, seq), list(full, short, seq, full, seq)} {
		stays(t, p)
	}
	// Behind a text that is too long for one more stands one that is not.
	simpler(t, list(full, short, seq, short, seq), list(full, lit("bb"), seq), used(9))
	simpler(t, list(lit(times("a", 200)), lit(times("b", 100)), seq, lit(times("c", 100)), seq), list(lit(times("a", 200)), lit(times("b", 100)+times("c", 100)), seq), used(9))
}

// S1, rule 12: each kind of node that captures, within each kind, beside a place and within another predicate.
func TestCapturesInPredicates(t *testing.T) {
	x, place := call("x"), op(api.PPlace)
	kinds := []api.Node{op(api.PSub), worded(api.PGroup, ""), worded(api.PGroup, "k"), op(api.PList), op(api.PSubst), worded(api.PString, "t%1"), counted(api.PPick, 0), counted(api.PPick, 50)}
	for _, predicate := range []api.Node{op(api.PAnd), op(api.PNot)} {
		for _, n := range kinds {
			becomes(t, list(x, n, predicate), list(x, predicate), 12)
			becomes(t, list(x, n, op(api.PStar), predicate), list(x, op(api.PStar), predicate), 12)
			becomes(t, list(place, n, predicate), list(op(api.PEmpty), predicate), 12)
			for _, y := range kinds {
				becomes(t, list(x, n, y, predicate), list(x, predicate), 12)
				for _, k := range []int{api.PSeq, api.PChoice} {
					becomes(t, list(x, n, x, y, op(k), predicate), list(x, x, op(k), predicate), 12)
					simpler(t, list(x, n, place, op(k), y, predicate), map[int]api.Pattern{api.PSeq: list(x, predicate), api.PChoice: list(x, op(api.PEmpty), op(api.PChoice), predicate)}[k], map[int][]int{api.PSeq: used(12, 4), api.PChoice: used(12)}[k])
					becomes(t, list(x, n, place, op(k), y, predicate), list(x, op(api.PEmpty), op(k), predicate), 12)
					becomes(t, list(x, x, n, op(k), place, op(api.PSeq), y, predicate), list(x, x, op(k), op(api.PEmpty), op(api.PSeq), predicate), 12)
				}
			}
			for _, inner := range []api.Node{op(api.PAnd), op(api.PNot)} {
				// What captures within a predicate within the predicate is gone ahead.
				becomes(t, list(x, n, inner, x, n, op(api.PSeq), predicate), list(x, inner, x, n, op(api.PSeq), predicate), 12)
				becomes(t, list(x, inner, x, n, op(api.PSeq), predicate), list(x, inner, x, op(api.PSeq), predicate), 12)
				becomes(t, list(x, inner, n, predicate), list(x, inner, predicate), 12)
				stays(t, list(x, inner, n))
				stays(t, list(x, inner, x, n, op(api.PSeq)))
			}
			// What captures around a predicate, or beside it, stays.
			stays(t, list(x, predicate, n))
			stays(t, list(x, predicate, x, n, op(api.PSeq)))
			stays(t, list(x, n, x, predicate, op(api.PChoice)))
		}
		becomes(t, list(place, predicate), list(op(api.PEmpty), predicate), 12)
		becomes(t, list(place, x, op(api.PSeq), place, op(api.PSeq), predicate), list(op(api.PEmpty), x, op(api.PSeq), op(api.PEmpty), op(api.PSeq), predicate), 12)
		stays(t, list(place, x, predicate, op(api.PSeq)))
	}
}

// S1, S2: rows that lean to the right become rows that lean to the left, as high as they may be.
func TestHighestRow(t *testing.T) {
	for _, kind := range []int{api.PSeq, api.PChoice} {
		var parts []api.Pattern
		for i := range api.MaxNest {
			parts = append(parts, list(call("x"+times("x", i%30))))
		}
		counts := make([]int, 16)
		// The last two lean to the left as they are; each one ahead goes by all others but the last one.
		counts[15] = 58 * 59 / 2
		simpler(t, rowFromTheRight(kind, parts...), row(kind, parts...), counts)
		refused(t, rowFromTheRight(kind, append(parts, parts[0])...), api.ErrDeep)
	}
	// Of two kinds in turn no part is where a rule asks for it.
	p := list(call("x"))
	for i := range api.MaxNest - 1 {
		p = append(list(call("y")), append(p, op(api.PSeq+i%2))...)
	}
	stays(t, p)
	refused(t, append(list(call("y")), append(p, op(api.PSeq+1))...), api.ErrDeep)
	// Texts and bytes go into one from the right, as they come first there.
	var texts []api.Pattern
	all := ""
	for i := range api.MaxNest {
		texts = append(texts, list(lit(string([]byte{byte(i)}))))
		all += texts[i][0].Text
	}
	counts := make([]int, 16)
	counts[8] = 59
	simpler(t, rowFromTheRight(api.PSeq, texts...), list(lit(all)), counts)
	counts = make([]int, 16)
	counts[7] = 59
	simpler(t, rowFromTheRight(api.PChoice, texts...), list(set(api.Set{1<<60 - 1})), counts)
}

// S2: a row as long as it may be, within as many others as there may be, each of which it has to go by.
func TestMostUses(t *testing.T) {
	x := list(call("x"))
	for _, kind := range []int{api.PSeq, api.PChoice} {
		inner := row(kind, slices.Repeat([]api.Pattern{x}, 966)...)
		p := rowFromTheRight(kind, append(slices.Repeat([]api.Pattern{x}, 58), inner)...)
		if at, e := tree.Check(p); len(p) != api.MaxNodes-1 || e != api.OK {
			t.Fatal(len(p), at, e)
		}
		counts := make([]int, 16)
		// Each one of the 58 goes by all of those behind it but one.
		counts[15] = 58*965 + 58*57/2
		simpler(t, p, row(kind, slices.Repeat([]api.Pattern{x}, 58+966)...), counts)
	}
}

// S2: as many nodes as there may be.
func TestMostNodes(t *testing.T) {
	a := list(lit("a"))
	p := append(row(api.PSeq, slices.Repeat([]api.Pattern{a}, 1024)...), op(api.PSub))
	if len(p) != api.MaxNodes {
		t.Fatal(len(p))
	}
	full := list(lit(times("a", 255)))
	counts := make([]int, 16)
	counts[8] = 1024 - 5
	simpler(t, p, append(row(api.PSeq, full, full, full, full, list(lit("aaaa"))), op(api.PSub)), counts)
	refused(t, append(p, op(api.PSub)), api.ErrLong)

	p = append(row(api.PChoice, slices.Repeat([]api.Pattern{a}, 1024)...), op(api.PSub))
	counts = make([]int, 16)
	counts[7] = 1023
	simpler(t, p, list(set(one('a')), op(api.PSub)), counts)

	p = append(row(api.PSeq, slices.Repeat([]api.Pattern{list(call("x"))}, 1024)...), op(api.PSub))
	stays(t, p)

	empties := slices.Repeat([]api.Pattern{list(op(api.PEmpty))}, 1024)
	counts = make([]int, 16)
	counts[3] = 1023
	simpler(t, append(row(api.PSeq, empties...), op(api.PSub)), list(op(api.PEmpty), op(api.PSub)), counts)
	counts = make([]int, 16)
	counts[6] = 1023
	simpler(t, append(row(api.PChoice, empties...), op(api.PSub)), list(op(api.PEmpty), op(api.PSub)), counts)

	places := slices.Repeat([]api.Pattern{list(op(api.PPlace))}, 1024)
	counts = make([]int, 16)
	counts[3], counts[10], counts[11] = 1023, 1, 1
	simpler(t, append(row(api.PSeq, places...), op(api.PNot)), list(op(api.PFail)), counts)
	stays(t, append(row(api.PSeq, places...), op(api.PSub)))
}

// S2: patterns as high as they may be.
func TestHighestPatterns(t *testing.T) {
	const above = api.MaxNest - 1
	x := call("x")
	for _, n := range []api.Node{op(api.PSub), op(api.PStar), worded(api.PGroup, "k"), counted(api.PTimes, 50), counted(api.PMost, 2)} {
		stays(t, tower(above, n, x))
		refused(t, tower(above+1, n, x), api.ErrDeep)
	}
	for _, y := range []struct {
		tower, want api.Pattern
		rule, times int
	}{
		{tower(above, op(api.PNot), x), list(x, op(api.PNot)), 10, 58},
		{tower(above, op(api.PAnd), x), list(x, op(api.PAnd)), 10, 58},
		{tower(above-1, op(api.PNot), x), list(x, op(api.PAnd)), 10, 57},
		{tower(above, op(api.PPlus), x), list(x, op(api.PPlus)), 15, 58},
		{tower(above, op(api.POpt), x), list(x, op(api.POpt)), 14, 58},
		{tower(above, counted(api.PTimes, 1), x), list(x), 3, 59},
		{tower(above, op(api.PStar), op(api.PFail)), nil, 13, 1},
		{tower(above, op(api.PPlus), op(api.PFail)), list(op(api.PFail)), 13, 59},
		{append(tower(above-1, op(api.PList), op(api.PPlace)), op(api.PAnd)), list(op(api.PEmpty)), 0, 0},
	} {
		counts := make([]int, 16)
		switch {
		case y.rule == 0:
			counts = used(12, 11)
		case y.want == nil:
			y.want, counts[12] = tower(above-1, op(api.PStar), op(api.PEmpty)), 1
		default:
			counts[y.rule-1] = y.times
		}
		simpler(t, y.tower, y.want, counts)
	}
}
