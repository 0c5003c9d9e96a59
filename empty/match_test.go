package empty_test

import (
	"slices"
	"strings"
	"testing"

	"harrow/api"
	"harrow/empty"
	"harrow/tree"
)

// bears says whether what is known bears that a pattern goes from i to j, or fails at i (j is -1).
func bears(x api.Emptiness, i, j int) bool {
	if j < 0 {
		return x.CanFail
	}
	return x.Least != -1 && j-i >= x.Least && (x.Most == -1 || j-i <= x.Most) && (j > i || x.Nullable)
}

// 9.3: matches that are told by hand, of a grammar's first rule, from a place of a subject to another one (-1: it fails).
func TestWhatIsKnownIsSoByHand(t *testing.T) {
	type match struct {
		subject string
		from    int
		to      int
	}
	for text, matches := range map[string][]match{
		"'a'*":                           {{"", 0, 0}, {"b", 0, 0}, {"aaab", 0, 3}, {"aaab", 2, 3}, {"aaab", 4, 4}},
		"'a'+":                           {{"aa", 0, 2}, {"aa", 1, 2}, {"aa", 2, -1}, {"ba", 0, -1}},
		"'ab'^2 'c'?":                    {{"abab", 0, 4}, {"ababc", 0, 5}, {"ababcc", 0, 5}, {"aba", 0, -1}, {"", 0, -1}},
		"'a'^+2":                         {{"aa", 0, 2}, {"aaaa", 0, 4}, {"aaaa", 3, -1}},
		"'a'^-2":                         {{"", 0, 0}, {"a", 0, 1}, {"aaa", 0, 2}},
		"'a'^0":                          {{"", 0, 0}, {"a", 0, 0}},
		"'a'^+0":                         {{"", 0, 0}, {"aa", 0, 2}},
		"'a'^-0":                         {{"", 0, 0}, {"a", 0, 0}},
		"%e":                             {{"", 0, 0}, {"a", 1, 1}},
		"%f":                             {{"", 0, -1}, {"a", 0, -1}},
		"%f / 'x'":                       {{"x", 0, 1}, {"y", 0, -1}},
		"'x' %f":                         {{"x", 0, -1}, {"", 0, -1}},
		"%f?":                            {{"x", 0, 0}},
		"!%f":                            {{"x", 0, 0}},
		"!.":                             {{"", 0, 0}, {"a", 0, -1}, {"a", 1, 1}},
		"&'abc'":                         {{"abc", 0, 0}, {"abc", 1, -1}},
		"&'ab' 'a'":                      {{"ab", 0, 1}, {"aa", 0, -1}},
		"!'a' .":                         {{"b", 0, 1}, {"a", 0, -1}, {"", 0, -1}},
		"'a' / 'abc'":                    {{"abc", 0, 1}, {"b", 0, -1}},
		"'abc' / 'a'":                    {{"abc", 0, 3}, {"ab", 0, 1}, {"b", 0, -1}},
		"'a'? / 'b'":                     {{"b", 0, 0}, {"a", 0, 1}},
		"'a'* 'b'":                       {{"b", 0, 1}, {"aab", 0, 3}, {"aa", 0, -1}},
		"{'a'+} 'b'":                     {{"aab", 0, 3}, {"b", 0, -1}},
		"{~ ('a' -> 'xyz' / .)* ~}":      {{"banana", 0, 6}, {"", 0, 0}},
		"{| {'a'} (',' {'b'})* |}":       {{"a,b,b", 0, 5}, {"a,", 0, 1}, {",b", 0, -1}},
		"{:k: [0-9]+ :} -> 0":            {{"42", 0, 2}, {"x", 0, -1}},
		"%u{3b1-3c9}":                    {{"\xce\xb1", 0, 2}, {"\xce", 0, -1}, {"a", 0, -1}},
		"s <- 'a' s 'b' / ''":            {{"aabb", 0, 4}, {"aab", 0, 0}, {"", 0, 0}},
		"s <- 'a' s 'b' / 'c'":           {{"aacbb", 0, 5}, {"c", 0, 1}, {"aacb", 0, -1}},
		"s <- 'a' s":                     {{"aaa", 0, -1}, {"", 0, -1}},
		"s <- 'a' t t <- 'b' s / 'c'":    {{"ac", 0, 2}, {"abac", 0, 4}, {"ab", 0, -1}},
		"s <- t* u t <- 'x' u? u <- 'y'": {{"y", 0, 1}, {"xxyy", 0, 4}, {"xy", 0, -1}},
		"s <- 'a' !s 'b'":                {{"ab", 0, 2}, {"aab", 0, -1}},
		"s <- 'a' &s 'a' / 'b'":          {{"b", 0, 1}, {"ab", 0, -1}, {"aab", 0, -1}},
		"'a'^50^50":                      {{strings.Repeat("a", 2500), 0, 2500}, {strings.Repeat("a", 2499), 0, -1}},
	} {
		g := read(t, text)
		l, e := empty.Rules(g)
		x, f := empty.Of(g, g.Rules[0].Body)
		if e != api.OK || f != api.OK {
			t.Fatal(text, e, f)
		}
		if !isWellFormed(g, byOpenRules(g)) {
			t.Fatal(text, "is not well formed")
		}
		for _, m := range matches {
			w := walker{g: g, subject: m.subject, steps: 1 << 20}
			if to, _ := w.from(g.Rules[0].Body, m.from); to != m.to {
				t.Errorf("%s at %d of %.20s goes to %d, want %d", text, m.from, m.subject, to, m.to)
			}
			if !bears(l[0], m.from, m.to) || !bears(x, m.from, m.to) {
				t.Errorf("%s goes from %d to %d, but is %s, its pattern %s", text, m.from, m.to, told(l[0]), told(x))
			}
		}
	}
}

// A walker goes by the relation, as long as it has steps.
type walker struct {
	g       api.Grammar
	subject string
	steps   int
}

// from is where a pattern goes to from i (-1: it fails), and whether the steps were enough.
func (w *walker) from(p api.Pattern, i int) (int, bool) {
	w.steps--
	if w.steps < 0 {
		return -1, false
	}
	n, first, second := cutParts(p)
	switch n.Op {
	case api.PEmpty, api.PPlace:
		return i, true
	case api.PFail:
		return -1, true
	case api.PAny:
		return w.taken(i, i < len(w.subject), 1), true
	case api.PText:
		return w.taken(i, strings.HasPrefix(w.subject[i:], n.Text), len(n.Text)), true
	case api.PSet:
		return w.taken(i, i < len(w.subject) && n.Set[w.subject[i]/64]>>(w.subject[i]%64)&1 == 1, 1), true
	case api.PCall:
		return w.from(w.g.Rules[ruleOf(w.g, n.Text)].Body, i)
	case api.PSeq:
		j, ok := w.from(first, i)
		if j < 0 || !ok {
			return j, ok
		}
		return w.from(second, j)
	case api.PChoice:
		j, ok := w.from(first, i)
		if j >= 0 || !ok {
			return j, ok
		}
		return w.from(second, i)
	case api.PAnd, api.PNot:
		j, ok := w.from(first, i)
		return w.taken(i, (j >= 0) == (n.Op == api.PAnd), 0), ok
	}
	least, most := countsOf(n)
	return w.repeat(first, i, least, most)
}

func (w *walker) taken(i int, is bool, size int) int {
	if !is {
		return -1
	}
	return i + size
}

// countsOf: how often a node's part must match, and may (-1: as often as it does).
func countsOf(n api.Node) (int, int) {
	switch n.Op {
	case api.PStar:
		return 0, -1
	case api.PPlus:
		return 1, -1
	case api.POpt:
		return 0, 1
	case api.PTimes:
		return n.N, n.N
	case api.PLeast:
		return n.N, -1
	case api.PMost:
		return 0, n.N
	}
	return 1, 1
}

func (w *walker) repeat(p api.Pattern, i, least, most int) (int, bool) {
	for count := 0; count != most; count++ {
		j, ok := w.from(p, i)
		if !ok {
			return -1, false
		}
		if j < 0 && count < least {
			return -1, true
		}
		if j < 0 {
			return i, true
		}
		i = j
	}
	return i, true
}

// headsOf: the rules with which a pattern begins (chapter 10).
func headsOf(p api.Pattern, m model) []string {
	n, first, second := cutParts(p)
	switch {
	case n.Op == api.PCall:
		return []string{n.Text}
	case len(first) == 0 || (n.Op == api.PTimes || n.Op == api.PMost) && n.N == 0:
		return nil
	case n.Op == api.PChoice || n.Op == api.PSeq && taleOf(first, m).nullable:
		return append(headsOf(first, m), headsOf(second, m)...)
	}
	return headsOf(first, m)
}

// isWellFormed goes by chapter 10: no rule behind itself on a way of heads, and no loop over what may match nothing.
func isWellFormed(g api.Grammar, m model) bool {
	for _, x := range g.Rules {
		var way []string
		next := headsOf(x.Body, m)
		for len(next) > 0 {
			name := next[0]
			next = next[1:]
			if name == x.Name {
				return false
			}
			if !slices.Contains(way, name) {
				way = append(way, name)
				next = append(next, headsOf(g.Rules[ruleOf(g, name)].Body, m)...)
			}
		}
		for at, n := range x.Body {
			if n.Op != api.PStar && n.Op != api.PPlus && n.Op != api.PLeast {
				continue
			}
			if part, _ := tree.Part(x.Body, at-1); taleOf(part, m).nullable {
				return false
			}
		}
	}
	return true
}

func subjectsUpTo(n int) []string {
	all := []string{""}
	for at := 0; len(all[at]) < n; at++ {
		all = append(all, all[at]+"a", all[at]+"b")
	}
	return all
}

// 9.3: of well-formed grammars of all sorts, each part of each rule, at each place of all short subjects.
func TestWhatIsKnownIsSo(t *testing.T) {
	x := newScramble()
	subjects := append(subjectsUpTo(4), "aabaabab", "bbbbbbb", "aaaaaaaa")
	seen, matches, fails := 0, 0, 0
	for i := 0; seen < 4000; i++ {
		g := x.grammar(1+i%4, 1+i%10, 4)
		if !isWellFormed(g, byOpenRules(g)) {
			continue
		}
		seen++
		for r := range g.Rules {
			parts, e := empty.Parts(g, r)
			if e != api.OK {
				t.Fatal(e)
			}
			for at, known := range parts {
				part, _ := tree.Part(g.Rules[r].Body, at)
				for _, s := range subjects {
					for from := range len(s) + 1 {
						w := walker{g: g, subject: s, steps: 1 << 12}
						to, ok := w.from(part, from)
						if !ok {
							continue
						}
						if !bears(known, from, to) {
							t.Fatalf("%v in %v at %d of %s goes to %d, but is %s", part, g, from, s, to, told(known))
						}
						if to < 0 {
							fails++
						} else {
							matches++
						}
					}
				}
			}
		}
	}
	if matches < 10000 || fails < 10000 {
		t.Error("too little was seen:", matches, fails)
	}
}

// 9.3: so it is of rules as of their parts, and of patterns beside the grammar.
func TestWhatIsKnownOfRulesIsSo(t *testing.T) {
	x := newScramble()
	subjects := subjectsUpTo(5)
	seen := 0
	for i := 0; seen < 3000; i++ {
		g := x.grammar(1+i%5, 1+i%8, 3)
		if !isWellFormed(g, byOpenRules(g)) {
			continue
		}
		seen++
		l, _ := empty.Rules(g)
		for r, known := range l {
			beside := list(call(g.Rules[r].Name), op(api.POpt), call(g.Rules[0].Name), op(api.PSeq))
			whole, e := empty.Of(g, beside)
			if e != api.OK {
				t.Fatal(e)
			}
			for _, s := range subjects {
				w := walker{g: g, subject: s, steps: 1 << 12}
				if to, ok := w.from(g.Rules[r].Body, 0); ok && !bears(known, 0, to) {
					t.Fatalf("%d in %v of %s goes to %d, but is %s", r, g, s, to, told(known))
				}
				if to, ok := w.from(beside, 0); ok && !bears(whole, 0, to) {
					t.Fatalf("%v in %v of %s goes to %d, but is %s", beside, g, s, to, told(whole))
				}
			}
		}
	}
}
