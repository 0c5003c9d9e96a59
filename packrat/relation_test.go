package packrat_test

import (
	"testing"

	"harrow/api"
	"harrow/packrat"
)

// enough is more steps than the small runs of these tests take.
const enough = 1 << 16

// ends holds Run and Fill of a grammar of one rule against where it goes from each place of a subject, and how many steps it takes there.
func ends(t *testing.T, g api.Grammar, subject string, want, steps []int) {
	t.Helper()
	if len(want) != len(subject)+1 || len(steps) != len(want) || len(g.Rules) != 1 {
		t.Fatalf("%s of %q: %d places are told, and steps of %d", text(g), subject, len(want), len(steps))
	}
	all := 0
	for at, end := range want {
		x := api.Table{Kind: api.Matched, End: end, Steps: steps[at], Rows: []api.Row{{Rule: 0, At: at, End: end}}}
		if end < 0 {
			x.Kind, x.End = api.Failed, 0
		}
		runs(t, g, 0, subject, at, x)
		all += steps[at]
	}
	fills(t, g, subject, [][]int{want}, all)
}

// runs holds Run against what it is to say with as many steps as it takes, and with more; with fewer it is tired.
func runs(t *testing.T, g api.Grammar, r int, subject string, at int, want api.Table) {
	t.Helper()
	for _, most := range []int{want.Steps, want.Steps + 1, 2 * want.Steps, api.MaxSteps} {
		if x, e := packrat.Run(g, r, subject, at, most); !sameTable(x, want) || e != api.OK {
			t.Errorf("Run(%s, %d, %.50q, %d, %d): %s, %v, want %s", text(g), r, subject, at, most, brief(told(g, x)), e, brief(told(g, want)))
		}
	}
	for _, most := range []int{0, 1, want.Steps / 2, want.Steps - 1} {
		if most < want.Steps {
			refusesToRun(t, g, r, subject, at, most, api.ErrTired)
		}
	}
}

// fills holds Fill against what it is to say, likewise.
func fills(t *testing.T, g api.Grammar, subject string, want [][]int, steps int) {
	t.Helper()
	for _, most := range []int{steps, steps + 1, 2 * steps, api.MaxSteps} {
		if l, n, e := packrat.Fill(g, subject, most); !sameLists(l, want) || n != steps || e != api.OK {
			t.Errorf("Fill(%s, %.50q, %d): %s, %d, %v, want %s, %d", text(g), subject, most, brief(l), n, e, brief(want), steps)
		}
	}
	for _, most := range []int{0, 1, steps / 2, steps - 1} {
		if most < steps {
			refusesToFill(t, g, subject, most, api.ErrTired)
		}
	}
}

// goes holds Run of a grammar's rule against what is told of it; each place of the whole table that its rows tell of is as they say.
func goes(t *testing.T, g api.Grammar, r int, subject string, at int, want string) {
	t.Helper()
	x, e := packrat.Run(g, r, subject, at, enough)
	if e != api.OK || told(g, x) != want {
		t.Errorf("%s, %d at %d of %q: %s, %v, want %s", text(g), r, at, subject, told(g, x), e, want)
		return
	}
	runs(t, g, r, subject, at, x)
	l, _, e := packrat.Fill(g, subject, enough)
	if e != api.OK {
		t.Fatalf("Fill(%s, %q): %v", text(g), subject, e)
	}
	for _, row := range x.Rows {
		if l[row.Rule][row.At] != row.End {
			t.Errorf("%s, %q: a row says %v, the whole table %v", text(g), subject, row, l)
		}
	}
}

// 13.1, 13.2: the chapter's examples. Of the second one at 2, a choice, a sequence, b and b; at 1 b matches, so a's call stands between; at 0 nothing is tried behind the call.
func TestExamples(t *testing.T) {
	goes(t, read(t, "s <- a 'x' / a 'y' a <- 'b' a / 'b'"), 0, "bby", 0, "to 3 in 20: s0>3 a0>2 a1>2 a2!")
	fills(t, read(t, "a <- 'b' a / 'b'"), "bb", [][]int{{2, 2, -1}}, 4+5+4)
}

// 13.1, 13.2: each kind of node that has no part, at each place of a subject.
func TestNodesWithoutParts(t *testing.T) {
	for _, x := range []struct {
		text, subject string
		want          []int
	}{
		{"%e", "ab", []int{0, 1, 2}},
		{"%f", "ab", []int{-1, -1, -1}},
		{".", "ab", []int{1, 2, -1}},
		{".", "", []int{-1}},
		{".", "\x00\xff", []int{1, 2, -1}},
		{"'a'", "aba", []int{1, -1, 3, -1}},
		{"'ab'", "abaab", []int{2, -1, -1, 5, -1, -1}},
		{"'aba'", "ababa", []int{3, -1, 5, -1, -1, -1}},
		{"'ab'", "a", []int{-1, -1}},
		{"'ab'", "", []int{-1}},
		{"'\\xff\\x00'", "\xff\x00\xff", []int{2, -1, -1, -1}},
		{"[b-c]", "abcd", []int{-1, 2, 3, -1, -1}},
		{"[^b-c]", "abcd", []int{1, -1, -1, 4, -1}},
		{"[]", "ab", []int{-1, -1, -1}},
		{"{}", "ab", []int{0, 1, 2}},
		{"%e", "", []int{0}},
		{"%f", "", []int{-1}},
		{"{}", "", []int{0}},
	} {
		var steps []int
		for range x.want {
			steps = append(steps, 1)
		}
		ends(t, read(t, x.text), x.subject, x.want, steps)
	}
}

// 13.1, 13.2: a set has just the bytes whose bits are set, of all 256.
func TestBytesOfSets(t *testing.T) {
	all := make([]byte, 256)
	for b := range all {
		all[b] = byte(b)
	}
	for b := range 256 {
		var one api.Set
		one[b/64] = 1 << (b % 64)
		for _, s := range []api.Set{one, {^one[0], ^one[1], ^one[2], ^one[3]}} {
			l, n, e := packrat.Fill(alone(set(s)), string(all), enough)
			if n != 257 || e != api.OK {
				t.Fatal(s, n, e)
			}
			for at, end := range l[0] {
				want := -1
				if at < 256 && (at == b) == (s == one) {
					want = at + 1
				}
				if end != want {
					t.Fatalf("%v at the byte %d: %d, want %d", s, at, end, want)
				}
			}
		}
	}
}

// 13.1, 13.2: each kind of node that has one part, which matches, and which fails, at each place of a subject; repetitions of none, of one and of more.
func TestNodesWithOnePart(t *testing.T) {
	for _, x := range []struct {
		text, subject string
		want, steps   []int
	}{
		{"'a'*", "aab", []int{2, 2, 2, 3}, []int{4, 3, 2, 2}},
		{"'a'+", "aab", []int{2, 2, -1, -1}, []int{4, 3, 2, 2}},
		{"'a'?", "aab", []int{1, 2, 2, 3}, []int{2, 2, 2, 2}},
		{"&'a'", "ab", []int{0, -1, -1}, []int{2, 2, 2}},
		{"!'a'", "ab", []int{-1, 1, 2}, []int{2, 2, 2}},
		{"'a'^0", "ab", []int{0, 1, 2}, []int{1, 1, 1}},
		{"'a'^1", "ab", []int{1, -1, -1}, []int{2, 2, 2}},
		{"'a'^2", "aaab", []int{2, 3, -1, -1, -1}, []int{3, 3, 3, 2, 2}},
		{"'a'^3", "aaab", []int{3, -1, -1, -1, -1}, []int{4, 4, 3, 2, 2}},
		{"'a'^+0", "aab", []int{2, 2, 2, 3}, []int{4, 3, 2, 2}},
		{"'a'^+1", "aab", []int{2, 2, -1, -1}, []int{4, 3, 2, 2}},
		{"'a'^+2", "aaab", []int{3, 3, -1, -1, -1}, []int{5, 4, 3, 2, 2}},
		{"'a'^-0", "ab", []int{0, 1, 2}, []int{1, 1, 1}},
		{"'a'^-1", "aab", []int{1, 2, 2, 3}, []int{2, 2, 2, 2}},
		{"'a'^-2", "aaab", []int{2, 3, 3, 3, 4}, []int{3, 3, 3, 2, 2}},
		{"'ab'*", "ababa", []int{4, 1, 4, 3, 4, 5}, []int{4, 2, 3, 2, 2, 2}},
		{"'ab'+", "ababa", []int{4, -1, 4, -1, -1, -1}, []int{4, 2, 3, 2, 2, 2}},
		{"%e^3", "a", []int{0, 1}, []int{4, 4}},
		{"%e^-3", "a", []int{0, 1}, []int{4, 4}},
		{"%e?", "a", []int{0, 1}, []int{2, 2}},
		{"%f*", "a", []int{0, 1}, []int{2, 2}},
		{"%f+", "a", []int{-1, -1}, []int{2, 2}},
		{"%f^0", "a", []int{0, 1}, []int{1, 1}},
		{"%f^+0", "a", []int{0, 1}, []int{2, 2}},
		{"&%e", "a", []int{0, 1}, []int{2, 2}},
		{"!%e", "a", []int{-1, -1}, []int{2, 2}},
		{"!!'a'", "ab", []int{0, -1, -1}, []int{3, 3, 3}},
		{"{'a'}", "ab", []int{1, -1, -1}, []int{2, 2, 2}},
		{"{:'a':}", "ab", []int{1, -1, -1}, []int{2, 2, 2}},
		{"{:k:'a':}", "ab", []int{1, -1, -1}, []int{2, 2, 2}},
		{"{|'a'|}", "ab", []int{1, -1, -1}, []int{2, 2, 2}},
		{"{~'a'~}", "ab", []int{1, -1, -1}, []int{2, 2, 2}},
		{"'a' -> 'x'", "ab", []int{1, -1, -1}, []int{2, 2, 2}},
		{"'a' -> 1", "ab", []int{1, -1, -1}, []int{2, 2, 2}},
	} {
		ends(t, read(t, x.text), x.subject, x.want, x.steps)
	}
}

// 13.1, 13.2: both kinds of nodes that have two parts: the first one fails, the second one does, both do, none does.
func TestNodesWithTwoParts(t *testing.T) {
	for _, x := range []struct {
		text, subject string
		want, steps   []int
	}{
		{"'a' 'b'", "abaac", []int{2, -1, -1, -1, -1, -1}, []int{3, 2, 3, 3, 2, 2}},
		{"'a' / 'b'", "abc", []int{1, 2, -1, -1}, []int{2, 3, 3, 3}},
		{"'a' / 'ab'", "ab", []int{1, -1, -1}, []int{2, 3, 3}},
		{"'ab' / 'a'", "aab", []int{1, 3, -1, -1}, []int{3, 2, 3, 3}},
		{"%e 'a'", "ab", []int{1, -1, -1}, []int{3, 3, 3}},
		{"%e / 'a'", "ab", []int{0, 1, 2}, []int{2, 2, 2}},
		{"%f 'a'", "ab", []int{-1, -1, -1}, []int{2, 2, 2}},
		{"%f / 'a'", "ab", []int{1, -1, -1}, []int{3, 3, 3}},
		{"'a' %f / 'a'", "ab", []int{1, -1, -1}, []int{5, 4, 4}},
		{"'a'* 'a'", "aa", []int{-1, -1, -1}, []int{6, 5, 4}},
		{"('a' / 'ab') 'c'", "abc", []int{-1, -1, -1, -1}, []int{4, 4, 4, 4}},
		{"('ab' / 'a') 'b'", "abb", []int{3, -1, -1, -1}, []int{4, 4, 4, 4}},
		{"'a' 'b' / 'a' 'c' / 'd'", "acd", []int{2, -1, 3, -1}, []int{8, 7, 7, 7}},
		{"('a' / ('b' / 'c')) ('d' 'a')", "bda", []int{3, -1, -1, -1}, []int{8, 6, 5, 6}},
	} {
		ends(t, read(t, x.text), x.subject, x.want, x.steps)
	}
}

// 13.1, 13.2: repetitions whose N is the greatest, at as many times, one less and one more.
func TestGreatestCounts(t *testing.T) {
	for n := 48; n <= 52; n++ {
		subject := times("a", n)
		for kind, want := range map[int]int{api.PTimes: 50, api.PMost: min(n, 50), api.PLeast: n} {
			if n < 50 && kind != api.PMost {
				want = -1
			}
			l, _, e := packrat.Fill(alone(lit("a"), counted(kind, 50)), subject, enough)
			if e != api.OK || l[0][0] != want {
				t.Error(kind, n, l, e)
			}
			x, e := packrat.Run(alone(lit("a"), counted(kind, 50)), 0, subject, 0, enough)
			if e != api.OK || x.Rows[0].End != want {
				t.Error(kind, n, x, e)
			}
		}
	}
}
