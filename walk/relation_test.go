package walk_test

import (
	"slices"
	"testing"

	"harrow/api"
	"harrow/walk"
)

// enough is more steps than the small walks of these tests take.
const enough = 1 << 16

// ends holds both Walk and Ends against where a grammar's first rule goes from each place of a subject, and how many steps it takes there.
func ends(t *testing.T, g api.Grammar, subject string, want, steps []int) {
	t.Helper()
	if len(want) != len(subject)+1 || len(steps) != len(want) {
		t.Fatalf("%s of %q: %d places are told, and steps of %d", text(g), subject, len(want), len(steps))
	}
	all := 0
	for at, end := range want {
		x, n, e := walk.Walk(g, 0, subject, at, enough)
		if e != api.OK || n != steps[at] {
			t.Errorf("%s at %d of %q: %d steps, %v, want %d", text(g), at, subject, n, e, steps[at])
		}
		isAs := x.Kind == api.Matched && x.End == end
		if end < 0 {
			isAs = x.Kind == api.Failed && x.End == 0 && len(x.Caps) == 0
		}
		if !isAs {
			t.Errorf("%s at %d of %q: %v, want to %d", text(g), at, subject, x, end)
		}
		all += steps[at]
	}
	if l, e := walk.Ends(g, 0, subject, all); !slices.Equal(l, want) || e != api.OK {
		t.Errorf("Ends(%s, %q): %v, %v, want %v", text(g), subject, l, e, want)
	}
	if l, e := walk.Ends(g, 0, subject, all-1); len(l) > 0 || e != api.ErrTired {
		t.Errorf("Ends(%s, %q) with a step too few: %v, %v", text(g), subject, l, e)
	}
}

// goes holds Walk of a grammar's first rule against what is told of it.
func goes(t *testing.T, g api.Grammar, subject string, at int, want string) {
	t.Helper()
	x, _, e := walk.Walk(g, 0, subject, at, enough)
	if e != api.OK || told(x) != want {
		t.Errorf("%s at %d of %q: %s, %v, want %s", text(g), at, subject, told(x), e, want)
	}
}

// K1: the chapter's examples, and those of the whole that a walk can show.
func TestExamples(t *testing.T) {
	for _, x := range []struct {
		text, subject string
		at            int
		want          string
		steps         int
	}{
		{"'a'*", "aab", 0, "2", 4},
		{"s <- 'a' s 'b' / %e", "ab", 0, "2", 11},
		{"{'a'} / 'b'", "b", 0, "1", 4},
		{"!'a'", "b", 0, "0", 2},
		{"'a'*", "aaab", 0, "3", 5},
		{"'a'*", "aaab", 3, "3", 2},
		{"{'a'+} 'b'", "aab", 0, "3 sub 0-2", 7},
		{"s <- 'a' s 'b' / ''", "aabb", 0, "4", 17},
		{"s <- 'a' s 'b' / ''", "aab", 0, "0", 18},
		{"!'a' .", "a", 0, "fails", 3},
		{"!'a' .", "b", 0, "1", 4},
		{"{| {[a-z]+} (',' {[a-z]+})* |}", "ab,c", 0, "4 list 0-4(sub 0-2, sub 3-4)", 16},
		{"{~ ('a' -> 'x' / .)* ~}", "banana", 0, "6 subst 0-6(string[x0] 1-2, string[x0] 3-4, string[x0] 5-6)", 27},
		{"{:k: [0-9]+ :}", "42", 0, "2 group[k0] 0-2", 5},
		{"&'ab' 'a'", "ab", 0, "1", 4},
		{"'a'^2", "aaa", 0, "2", 3},
		{"'a'^+2", "a", 0, "fails", 3},
		{"'a'^-2", "aaa", 0, "2", 3},
		{"%u{3b1-3c9}", "\xce\xb1", 0, "2", 4},
	} {
		g := read(t, x.text)
		goes(t, g, x.subject, x.at, x.want)
		if _, n, e := walk.Walk(g, 0, x.subject, x.at, x.steps); n != x.steps || e != api.OK {
			t.Errorf("%s at %d of %q: %d steps, %v, want %d", x.text, x.at, x.subject, n, e, x.steps)
		}
		if y, n, e := walk.Walk(g, 0, x.subject, x.at, x.steps-1); !sameResult(y, api.Result{}) || n != 0 || e != api.ErrTired {
			t.Errorf("%s with a step too few: %v, %d, %v", x.text, y, n, e)
		}
	}
}

// K1, K2: each kind of node that has no part, at each place of a subject.
func TestNodesWithoutParts(t *testing.T) {
	for _, x := range []struct {
		text, subject string
		want, steps   []int
	}{
		{"%e", "ab", []int{0, 1, 2}, []int{1, 1, 1}},
		{"%f", "ab", []int{-1, -1, -1}, []int{1, 1, 1}},
		{".", "ab", []int{1, 2, -1}, []int{1, 1, 1}},
		{".", "", []int{-1}, []int{1}},
		{".", "\x00\xff", []int{1, 2, -1}, []int{1, 1, 1}},
		{"'a'", "aba", []int{1, -1, 3, -1}, []int{1, 1, 1, 1}},
		{"'ab'", "abaab", []int{2, -1, -1, 5, -1, -1}, []int{1, 1, 1, 1, 1, 1}},
		{"'aba'", "ababa", []int{3, -1, 5, -1, -1, -1}, []int{1, 1, 1, 1, 1, 1}},
		{"'ab'", "a", []int{-1, -1}, []int{1, 1}},
		{"'ab'", "", []int{-1}, []int{1}},
		{"'\\xff\\x00'", "\xff\x00\xff", []int{2, -1, -1, -1}, []int{1, 1, 1, 1}},
		{"[b-c]", "abcd", []int{-1, 2, 3, -1, -1}, []int{1, 1, 1, 1, 1}},
		{"[^b-c]", "abcd", []int{1, -1, -1, 4, -1}, []int{1, 1, 1, 1, 1}},
		{"[]", "ab", []int{-1, -1, -1}, []int{1, 1, 1}},
		{"{}", "ab", []int{0, 1, 2}, []int{1, 1, 1}},
		{"s <- t t <- 'a'", "aba", []int{1, -1, 3, -1}, []int{2, 2, 2, 2}},
		{"s <- t t <- u u <- !.", "a", []int{-1, 1}, []int{4, 4}},
		{"%e", "", []int{0}, []int{1}},
		{"%f", "", []int{-1}, []int{1}},
		{"{}", "", []int{0}, []int{1}},
	} {
		ends(t, read(t, x.text), x.subject, x.want, x.steps)
	}
}

// K1: a set has just the bytes whose bits are set, of all 256.
func TestBytesOfSets(t *testing.T) {
	all := make([]byte, 256)
	for b := range all {
		all[b] = byte(b)
	}
	for b := range 256 {
		var one api.Set
		one[b/64] = 1 << (b % 64)
		for _, s := range []api.Set{one, {^one[0], ^one[1], ^one[2], ^one[3]}} {
			isIn := s == one
			for at := range all {
				want := "fails"
				if (at == b) == isIn {
					want = fmtEnd(at + 1)
				}
				goes(t, alone(set(s)), string(all), at, want)
			}
		}
	}
}

// K1, K2: each kind of node that has one part, which matches, and which fails, at each place of a subject; repetitions of none, of one and of more.
func TestNodesWithOnePart(t *testing.T) {
	for _, x := range []struct {
		text, subject string
		want, steps   []int
	}{
		{"'a'*", "aab", []int{2, 2, 2, 3}, []int{4, 3, 2, 2}},
		{"'a'+", "aab", []int{2, 2, -1, -1}, []int{4, 3, 2, 2}},
		{"'a'?", "aab", []int{1, 2, 2, 3}, []int{2, 2, 2, 2}},
		{"&'a'", "ab", []int{0, -1, -1}, []int{2, 2, 2}},
		{"!'a'", "ab", []int{-1, 1, 2}, []int{2, 2, 2}},
		{"'a'^0", "ab", []int{0, 1, 2}, []int{1, 1, 1}},
		{"'a'^1", "ab", []int{1, -1, -1}, []int{2, 2, 2}},
		{"'a'^2", "aaab", []int{2, 3, -1, -1, -1}, []int{3, 3, 3, 2, 2}},
		{"'a'^3", "aaab", []int{3, -1, -1, -1, -1}, []int{4, 4, 3, 2, 2}},
		{"'a'^+0", "aab", []int{2, 2, 2, 3}, []int{4, 3, 2, 2}},
		{"'a'^+1", "aab", []int{2, 2, -1, -1}, []int{4, 3, 2, 2}},
		{"'a'^+2", "aaab", []int{3, 3, -1, -1, -1}, []int{5, 4, 3, 2, 2}},
		{"'a'^-0", "ab", []int{0, 1, 2}, []int{1, 1, 1}},
		{"'a'^-1", "aab", []int{1, 2, 2, 3}, []int{2, 2, 2, 2}},
		{"'a'^-2", "aaab", []int{2, 3, 3, 3, 4}, []int{3, 3, 3, 2, 2}},
		{"'ab'*", "ababa", []int{4, 1, 4, 3, 4, 5}, []int{4, 2, 3, 2, 2, 2}},
		{"'ab'+", "ababa", []int{4, -1, 4, -1, -1, -1}, []int{4, 2, 3, 2, 2, 2}},
		{"%e^3", "a", []int{0, 1}, []int{4, 4}},
		{"%e^-3", "a", []int{0, 1}, []int{4, 4}},
		{"%e?", "a", []int{0, 1}, []int{2, 2}},
		{"%f*", "a", []int{0, 1}, []int{2, 2}},
		{"%f+", "a", []int{-1, -1}, []int{2, 2}},
		{"%f^0", "a", []int{0, 1}, []int{1, 1}},
		{"%f^+0", "a", []int{0, 1}, []int{2, 2}},
		{"&%e", "a", []int{0, 1}, []int{2, 2}},
		{"!%e", "a", []int{-1, -1}, []int{2, 2}},
		{"!!'a'", "ab", []int{0, -1, -1}, []int{3, 3, 3}},
		{"{'a'}", "ab", []int{1, -1, -1}, []int{2, 2, 2}},
		{"{:'a':}", "ab", []int{1, -1, -1}, []int{2, 2, 2}},
		{"{:k:'a':}", "ab", []int{1, -1, -1}, []int{2, 2, 2}},
		{"{|'a'|}", "ab", []int{1, -1, -1}, []int{2, 2, 2}},
		{"{~'a'~}", "ab", []int{1, -1, -1}, []int{2, 2, 2}},
		{"'a' -> 'x'", "ab", []int{1, -1, -1}, []int{2, 2, 2}},
		{"'a' -> 1", "ab", []int{1, -1, -1}, []int{2, 2, 2}},
	} {
		ends(t, read(t, x.text), x.subject, x.want, x.steps)
	}
}

// K1, K2: both kinds of nodes that have two parts: the first one fails, the second one does, both do, none does.
func TestNodesWithTwoParts(t *testing.T) {
	for _, x := range []struct {
		text, subject string
		want, steps   []int
	}{
		{"'a' 'b'", "abaac", []int{2, -1, -1, -1, -1, -1}, []int{3, 2, 3, 3, 2, 2}},
		{"'a' / 'b'", "abc", []int{1, 2, -1, -1}, []int{2, 3, 3, 3}},
		{"'a' / 'ab'", "ab", []int{1, -1, -1}, []int{2, 3, 3}},
		{"'ab' / 'a'", "aab", []int{1, 3, -1, -1}, []int{3, 2, 3, 3}},
		{"%e 'a'", "ab", []int{1, -1, -1}, []int{3, 3, 3}},
		{"%e / 'a'", "ab", []int{0, 1, 2}, []int{2, 2, 2}},
		{"%f 'a'", "ab", []int{-1, -1, -1}, []int{2, 2, 2}},
		{"%f / 'a'", "ab", []int{1, -1, -1}, []int{3, 3, 3}},
		{"'a' %f / 'a'", "ab", []int{1, -1, -1}, []int{5, 4, 4}},
		{"'a'* 'a'", "aa", []int{-1, -1, -1}, []int{6, 5, 4}},
		{"('a' / 'ab') 'c'", "abc", []int{-1, -1, -1, -1}, []int{4, 4, 4, 4}},
		{"('ab' / 'a') 'b'", "abb", []int{3, -1, -1, -1}, []int{4, 4, 4, 4}},
		{"'a' 'b' / 'a' 'c' / 'd'", "acd", []int{2, -1, 3, -1}, []int{8, 7, 7, 7}},
	} {
		ends(t, read(t, x.text), x.subject, x.want, x.steps)
	}
}

// K1: repetitions whose N is the greatest, at as many times, one less and one more.
func TestGreatestCounts(t *testing.T) {
	for n := 48; n <= 52; n++ {
		subject := times("a", n)
		want := fmtEnd(50)
		if n < 50 {
			want = "fails"
		}
		goes(t, alone(lit("a"), counted(api.PTimes, 50)), subject, 0, want)
		goes(t, alone(lit("a"), counted(api.PMost, 50)), subject, 0, fmtEnd(min(n, 50)))
		if n >= 50 {
			want = fmtEnd(n)
		}
		goes(t, alone(lit("a"), counted(api.PLeast, 50)), subject, 0, want)
		goes(t, alone(lit("a"), op(api.PStar)), subject, 0, fmtEnd(n))
	}
}

// K1: rules that call others, that call themselves, and that come round to themselves behind a byte.
func TestRules(t *testing.T) {
	pairs := read(t, "s <- 'a' s 'b' / %e")
	ends(t, pairs, "aabb", []int{4, 3, 2, 3, 4}, []int{17, 11, 5, 5, 5})
	ring := read(t, "a <- 'x' b / 'y' b <- 'p' c / 'q' c <- 'r' a / 's'")
	goes(t, ring, "xprxq", 0, "5")
	goes(t, ring, "xprxprxps", 0, "9")
	goes(t, ring, "xprxprxpt", 0, "fails")
	goes(t, ring, "y", 0, "1")
	for r, want := range []string{"9", "fails", "fails"} {
		if x, _, e := walk.Walk(ring, r, "xprxprxps", 0, enough); told(x) != want || e != api.OK {
			t.Errorf("the rule %d: %s, %v, want %s", r, told(x), e, want)
		}
	}
	if x, _, e := walk.Walk(ring, 2, "xprxprxps", 8, enough); told(x) != "9" || e != api.OK {
		t.Error(told(x), e)
	}
	// What a rule does at a place is one thing, whoever calls it there.
	goes(t, read(t, "s <- !(t 'x') t 'y' / t 'x' t t <- 'a'+"), "aaxa", 0, "4")
	goes(t, read(t, "s <- &t t t? !t t <- [ab]"), "abc", 0, "2")
	// Rules that are called are found by their whole names, whatever stands between them.
	goes(t, read(t, "s <- tt t t <- 'a' tt <- 'b' ttt <- 'c'"), "ba", 0, "2")
	goes(t, read(t, "s <- T t t <- 'a' T <- 'b'"), "ba", 0, "2")
	sums := read(t, "e <- t ('+' t)* t <- f ('*' f)* f <- [0-9]+ / '(' e ')'")
	goes(t, sums, "1+2*(3+45)*6+7)", 0, "14")
	goes(t, sums, "1+2*(3+45*6+7", 0, "3")
	goes(t, sums, "1+2*(3+45*6+7", 4, "fails")
	// As many rules as there may be, each of which calls the next one.
	goes(t, chain(200), times("a", 200), 0, "200")
	goes(t, chain(200), times("a", 199), 0, "fails")
}

// chain is n rules that take a byte each, and then do what the next one does; the last one takes a byte alone.
func chain(n int) api.Grammar {
	var g api.Grammar
	for r := range n - 1 {
		g.Rules = append(g.Rules, rule(nameOf(r), lit("a"), call(nameOf(r+1)), op(api.PSeq)))
	}
	g.Rules = append(g.Rules, rule(nameOf(n-1), lit("a")))
	return g
}

func fmtEnd(end int) string { return told(api.Result{Kind: api.Matched, End: end}) }

// K1: captures of each kind, with the node's Text and N; beside one another, and within one another.
func TestForests(t *testing.T) {
	for _, x := range []struct {
		text, subject string
		at            int
		want          string
	}{
		{"{}", "ab", 0, "0 place 0-0"},
		{"{}", "ab", 1, "1 place 1-1"},
		{"{}", "ab", 2, "2 place 2-2"},
		{"{}", "", 0, "0 place 0-0"},
		{"{%e}", "ab", 2, "2 sub 2-2"},
		{"{'a'}", "ba", 1, "2 sub 1-2"},
		{"{:'a':}", "ba", 1, "2 group 1-2"},
		{"{:k:'a':}", "ba", 1, "2 group[k0] 1-2"},
		{"{|'a'|}", "ba", 1, "2 list 1-2"},
		{"{~'a'~}", "ba", 1, "2 subst 1-2"},
		{"'a' -> ''", "ba", 1, "2 string 1-2"},
		{"'a' -> '%0x%1'", "ba", 1, "2 string[%0x%10] 1-2"},
		{"'a' -> 0", "ba", 1, "2 pick 1-2"},
		{"'a' -> 50", "ba", 1, "2 pick[50] 1-2"},
		{"{'a'} {'b'}", "ab", 0, "2 sub 0-1, sub 1-2"},
		{"{} 'a' {} 'b' {}", "ab", 0, "2 place 0-0, place 1-1, place 2-2"},
		{"{{'a'}{'b'}}", "ab", 0, "2 sub 0-2(sub 0-1, sub 1-2)"},
		{"{{{{}}}}", "ab", 1, "1 sub 1-1(sub 1-1(sub 1-1(place 1-1)))"},
		{"{'a' {}} {{} 'b'}", "ab", 0, "2 sub 0-1(place 1-1), sub 1-2(place 1-1)"},
		{"{| {:x: {.} :} {:y: {.} {} :} |}", "ab", 0, "2 list 0-2(group[x0] 0-1(sub 0-1), group[y0] 1-2(sub 1-2, place 2-2))"},
		{"{| {{.} {}} {} {|{}|} |} {}", "ab", 0, "1 list 0-1(sub 0-1(sub 0-1, place 1-1), place 1-1, list 1-1(place 1-1)), place 1-1"},
		{"({.} {.} {} -> 2)*", "abcd", 0, "4 sub 0-1, sub 1-2, pick[2] 2-2(place 2-2), sub 2-3, sub 3-4, pick[2] 4-4(place 4-4)"},
		{"{.}*", "abc", 1, "3 sub 1-2, sub 2-3"},
		{"{.}+", "abc", 1, "3 sub 1-2, sub 2-3"},
		{"{.}^2", "abc", 1, "3 sub 1-2, sub 2-3"},
		{"{.}^+1", "abc", 1, "3 sub 1-2, sub 2-3"},
		{"{.}^-1", "abc", 1, "2 sub 1-2"},
		{"{}^3", "a", 0, "0 place 0-0, place 0-0, place 0-0"},
		{"{.}?", "a", 0, "1 sub 0-1"},
		{"{.}^0 {.}^-0", "a", 0, "0"},
		{"s <- {t} t t <- {} 'a' {}", "aa", 0, "2 sub 0-1(place 0-0, place 1-1), place 1-1, place 2-2"},
		{"s <- {'a' s 'b'} / {}", "aabb", 0, "4 sub 0-4(sub 1-3(place 2-2))"},
		{"s <- {| t* |} t <- {[a-z]} / '(' s ')'", "a(b(c)())d", 0, "10 list 0-10(sub 0-1, list 2-8(sub 2-3, list 4-5(sub 4-5), list 7-7), sub 9-10)"},
	} {
		goes(t, read(t, x.text), x.subject, x.at, x.want)
	}
}

// K1: what a part captured that failed afterwards is gone, and so is what a predicate's part captured.
func TestForestsOfWhatFailed(t *testing.T) {
	for _, x := range []struct {
		text, subject string
		want          string
	}{
		{"{'a'} 'b'", "ac", "fails"},
		{"{'a' 'b'}", "ac", "fails"},
		{"{} 'b'", "a", "fails"},
		{"{'a'} / 'b'", "b", "1"},
		{"{} 'a' / 'b'", "b", "1"},
		{"{'a'} 'b' / {'a' 'c'}", "ac", "2 sub 0-2"},
		{"{'a'} {'b'} {'c'} / {'a'} {'b' 'd'}", "abd", "3 sub 0-1, sub 1-3"},
		{"{} ({'a'} 'b' / {} 'a' {}) {}", "ac", "1 place 0-0, place 0-0, place 1-1, place 1-1"},
		{"{{'a'} ({'b'} 'x' / {} {} 'y' / 'b') {}}", "ab", "2 sub 0-2(sub 0-1, place 2-2)"},
		{"{({'a'} 'b')? {'a'}}", "a", "1 sub 0-1(sub 0-1)"},
		{"{({'a'} {} 'b')* {'a'}}", "aba", "3 sub 0-3(sub 0-1, place 1-1, sub 2-3)"},
		{"({.} 'x')*", "axbxc", "4 sub 0-1, sub 2-3"},
		{"({.} 'x')+", "axbxc", "4 sub 0-1, sub 2-3"},
		{"({.} 'x')^+2", "axbxc", "4 sub 0-1, sub 2-3"},
		{"({.} 'x')^-3", "axbxc", "4 sub 0-1, sub 2-3"},
		{"({.} 'x')?", "ab", "0"},
		{"({.} 'x')^2 / {.}", "axb", "1 sub 0-1"},
		{"({.} 'x')^+2 / {.}", "axb", "1 sub 0-1"},
		{"({.} 'x')+ / {.}", "a", "1 sub 0-1"},
		{"&{'a'} {'a'}", "a", "1 sub 0-1"},
		{"{&{'a'} {}}", "a", "0 sub 0-0(place 0-0)"},
		{"{} &({} {'a' {}}) {}", "a", "0 place 0-0, place 0-0"},
		{"!({'a'} 'b') {'a'}", "a", "1 sub 0-1"},
		{"{!({} {'a'} 'b') {}}", "a", "0 sub 0-0(place 0-0)"},
		{"!{'a'} / {}", "a", "0 place 0-0"},
		{"!!{'a'} {}", "a", "0 place 0-0"},
		{"{| ({:k: {.} {} :} 'x' / {.})* |}", "abx", "3 list 0-3(sub 0-1, group[k0] 1-2(sub 1-2, place 2-2))"},
		{"s <- {} t / {} 'a' t <- {} {'a'} u u <- {} 'b'", "a", "1 place 0-0"},
		{"s <- {'a' s 'b'} / {}", "aab", "0 place 0-0"},
		{"s <- {'a' (s 'b')?} / {}", "aab", "1 sub 0-1"},
		{"s <- {'a' (s 'b')?} / {}", "aabb", "4 sub 0-4(sub 1-3(place 2-2))"},
	} {
		goes(t, read(t, x.text), x.subject, 0, x.want)
	}
}
