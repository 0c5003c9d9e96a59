package show_test

import (
	"slices"
	"strconv"
	"strings"
	"testing"

	"harrow/api"
	"harrow/charset"
	"harrow/quote"
	"harrow/show"
)

func shownTree(t *testing.T, want string, p ...api.Node) {
	t.Helper()
	if s, e := show.Tree(p); s != want || e != api.OK {
		t.Errorf("Tree(%v): %s, %v, want %s", brief(p), short(s), e, short(want))
	}
}

// 7.1: the tree of each kind of node.
func TestTreeOfEachKind(t *testing.T) {
	a, b := lit("a"), lit("b")
	shownTree(t, "empty\n", op(api.PEmpty))
	shownTree(t, "fail\n", op(api.PFail))
	shownTree(t, "any\n", op(api.PAny))
	shownTree(t, "text 'a'\n", a)
	shownTree(t, "text 'it\\'s\\n'\n", lit("it's\n"))
	shownTree(t, "set [ab]\n", set(charset.Of("ab")))
	shownTree(t, "set []\n", set(api.Set{}))
	shownTree(t, "call s\n", call("s"))
	shownTree(t, "seq\n  text 'a'\n  text 'b'\n", a, b, op(api.PSeq))
	shownTree(t, "choice\n  text 'a'\n  text 'b'\n", a, b, op(api.PChoice))
	shownTree(t, "star\n  text 'a'\n", a, op(api.PStar))
	shownTree(t, "plus\n  text 'a'\n", a, op(api.PPlus))
	shownTree(t, "opt\n  text 'a'\n", a, op(api.POpt))
	shownTree(t, "and\n  text 'a'\n", a, op(api.PAnd))
	shownTree(t, "not\n  text 'a'\n", a, op(api.PNot))
	shownTree(t, "times 0\n  text 'a'\n", a, number(api.PTimes, 0))
	shownTree(t, "least 50\n  text 'a'\n", a, number(api.PLeast, 50))
	shownTree(t, "most 3\n  text 'a'\n", a, number(api.PMost, 3))
	shownTree(t, "place\n", op(api.PPlace))
	shownTree(t, "sub\n  text 'a'\n", a, op(api.PSub))
	shownTree(t, "group\n  text 'a'\n", a, group(""))
	shownTree(t, "group k\n  text 'a'\n", a, group("k"))
	shownTree(t, "list\n  text 'a'\n", a, op(api.PList))
	shownTree(t, "subst\n  text 'a'\n", a, op(api.PSubst))
	shownTree(t, "string '%1'\n  text 'a'\n", a, template("%1"))
	shownTree(t, "string ''\n  text 'a'\n", a, template(""))
	shownTree(t, "pick 0\n  text 'a'\n", a, number(api.PPick, 0))
	shownTree(t, "pick 50\n  text 'a'\n", a, number(api.PPick, 50))
}

// 7.1: parts in their order, each two blanks farther in.
func TestTrees(t *testing.T) {
	a, b, c := lit("a"), lit("b"), lit("c")
	seq, choice, star := op(api.PSeq), op(api.PChoice), op(api.PStar)
	shownTree(t, "star\n  seq\n    text 'a'\n    text 'b'\n", a, b, seq, star)
	shownTree(t, "seq\n  text 'a'\n  seq\n    text 'b'\n    text 'c'\n", a, b, c, seq, seq)
	shownTree(t, "seq\n  seq\n    text 'a'\n    text 'b'\n  text 'c'\n", a, b, seq, c, seq)
	shownTree(t, "choice\n  star\n    text 'a'\n  seq\n    call s\n    star\n      text 'c'\n", a, star, call("s"), c, star, seq, choice)
	for _, p := range somePatterns() {
		sameAsModel(t, p)
	}
}

// 7.1: patterns that lie deep.
func TestDeepTrees(t *testing.T) {
	for _, kind := range kindsWith(1) {
		n := nodeOf(kind)
		word := filled(table[kind].tree, n)
		want := ""
		for depth := range 59 {
			want += times("  ", depth) + word + "\n"
		}
		shownTree(t, want+times(" ", 118)+"any\n", tower(59, n, op(api.PAny))...)
	}
	for _, join := range kindsWith(2) {
		word := table[join].tree
		want := ""
		for depth := range 59 {
			want += times("  ", depth) + word + "\n" + times("  ", depth+1) + "any\n"
		}
		shownTree(t, want+times(" ", 118)+"any\n", rightRow(join, 59, op(api.PAny))...)
		// A row from the left is no higher than its members, but its tree is as deep as it is long.
		want = ""
		for depth := range 150 {
			want += times("  ", depth) + word + "\n"
		}
		want += times("  ", 150) + "any\n"
		for depth := 150; depth > 0; depth-- {
			want += times("  ", depth) + "any\n"
		}
		shownTree(t, want, row(join, 150, op(api.PAny))...)
	}
}

// 7.1: a tree of MaxText bytes is told, one of more is not; what its text is does not matter.
func TestLongestTree(t *testing.T) {
	for n := api.MaxText - 3; n <= api.MaxText+60; n++ {
		q := treeOfBytes(n)
		s, e := show.Tree(q)
		if n <= api.MaxText && (e != api.OK || len(s) != n || s != treeOf(q)) || n > api.MaxText && (e != api.ErrLong || s != "") {
			t.Errorf("a tree of %d bytes: %d, %v", n, len(s), e)
		}
	}
	// Blanks count: a row of single bytes is short as a text, and long as a tree.
	for n := 150; n < 200; n++ {
		sameAsModel(t, row(api.PSeq, n, op(api.PAny)))
	}
	for _, n := range []int{200, 500, 1023} {
		if s, e := show.Tree(row(api.PSeq, n, op(api.PAny))); s != "" || e != api.ErrLong {
			t.Errorf("a row of %d: %s, %v", n, short(s), e)
		}
		if s, e := show.Pattern(row(api.PSeq, n, op(api.PAny))); len(s) != 2*n+1 || e != api.OK {
			t.Errorf("a row of %d: %s, %v", n, short(s), e)
		}
	}
}

// A row whose tree has so many bytes (from 65445 on to 65699).
func treeOfBytes(n int) api.Pattern {
	p := rightRow(api.PSeq, 57, lit(times("\xff", 255)))
	p[0].Text = ""
	p[0].Text = times("x", n-len(treeOf(p)))
	return p
}

// readTree reads a tree as the pattern that it tells: the chapter gives no such call, but there must be just one answer.
func readTree(t *testing.T, text string) api.Pattern {
	t.Helper()
	lines := strings.Split(strings.TrimSuffix(text, "\n"), "\n")
	kinds := map[string]int{}
	for kind, l := range table {
		word, _, _ := strings.Cut(l.tree, " ")
		kinds[word] = kind
	}
	var read func(depth int) api.Pattern
	read = func(depth int) api.Pattern {
		indented := lines[0]
		lines = lines[1:]
		line := strings.TrimLeft(indented, " ")
		if len(indented)-len(line) != 2*depth {
			t.Fatalf("%s stands not at %d", short(indented), depth)
		}
		word, field, _ := strings.Cut(line, " ")
		n := op(kinds[word])
		switch n.Op {
		case api.PText, api.PString:
			n.Text, _ = quote.Unquote(field)
		case api.PSet:
			n.Set, _ = charset.Parse(field)
		case api.PCall, api.PGroup:
			n.Text = field
		case api.PTimes, api.PLeast, api.PMost, api.PPick:
			n.N, _ = strconv.Atoi(field)
		}
		var p api.Pattern
		for range table[n.Op].parts {
			p = append(p, read(depth+1)...)
		}
		return append(p, n)
	}
	p := read(0)
	if len(lines) != 0 {
		t.Fatalf("%d lines left", len(lines))
	}
	return p
}

// 7.5: as many lines as nodes.
func TestLinesOfTrees(t *testing.T) {
	for _, p := range somePatterns() {
		s, e := show.Tree(p)
		if e != api.OK || strings.Count(s, "\n") != len(p) || !strings.HasSuffix(s, "\n") || strings.Contains(s, "\n\n") {
			t.Errorf("Tree(%v): %s, %v", brief(p), short(s), e)
		}
	}
}

// 7.5: patterns that are not the same have trees that are not: each tree is read as its pattern.
func TestTreesTellPatternsApart(t *testing.T) {
	seen := map[string]api.Pattern{}
	for _, p := range somePatterns() {
		s, _ := show.Tree(p)
		if q := readTree(t, s); !slices.Equal(p, q) {
			t.Errorf("Tree(%v) is read as %v", brief(p), brief(q))
		}
		if q, is := seen[s]; is && !slices.Equal(p, q) {
			t.Errorf("%v and %v have one tree", brief(p), brief(q))
		}
		seen[s] = p
	}
	// Those that are nearly the same.
	a, b := lit("a"), lit("b")
	near := []api.Pattern{
		{a}, {call("a")}, {set(charset.Of("a"))}, {lit("A")}, {lit("a ")}, {lit("a\n")}, {lit(`a\n`)}, {lit("'a'")}, {op(api.PEmpty)}, {op(api.PPlace)}, {call("empty")}, {call("any")}, {op(api.PAny)},
		{a, b, op(api.PSeq)}, {b, a, op(api.PSeq)}, {a, b, op(api.PChoice)}, {lit("ab")}, {lit("a b")}, {a, a, b, op(api.PSeq), op(api.PSeq)}, {a, a, op(api.PSeq), b, op(api.PSeq)},
		{a, op(api.PStar)}, {a, op(api.PPlus)}, {a, number(api.PLeast, 0)}, {a, number(api.PLeast, 1)}, {a, number(api.PTimes, 1)}, {a, number(api.PTimes, 10)}, {a, number(api.PMost, 1)}, {a, number(api.PPick, 1)}, {a, template("1")}, {a, template("")},
		{a, group("")}, {a, group("a")}, {a, group("_")}, {a, op(api.PSub)}, {a, op(api.PList)}, {a, op(api.PSubst)}, {a, op(api.PNot), op(api.PStar)}, {a, op(api.PStar), op(api.PNot)}, {a, op(api.PAnd), op(api.PStar)},
	}
	for i, p := range near {
		for _, q := range near[:i] {
			s, _ := show.Tree(p)
			if r, _ := show.Tree(q); s == r {
				t.Errorf("%v and %v have one tree", p, q)
			}
		}
	}
}
