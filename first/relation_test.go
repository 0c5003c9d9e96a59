package first_test

import (
	"slices"
	"strings"
	"testing"

	"harrow/api"
	"harrow/first"
	"harrow/ford"
	"harrow/tree"
)

// A walker goes by the relation, as long as it has steps.
type walker struct {
	g       api.Grammar
	subject string
	steps   int
}

// from is where a pattern goes to from i; -1: it fails, or the steps were not enough.
func (w *walker) from(p api.Pattern, i int) int {
	w.steps--
	if w.steps < 0 {
		return -1
	}
	n, one, other := cutParts(p)
	takes := func(is bool, size int) int {
		if !is {
			return -1
		}
		return i + size
	}
	switch n.Op {
	case api.PEmpty, api.PPlace:
		return i
	case api.PFail:
		return -1
	case api.PAny:
		return takes(i < len(w.subject), 1)
	case api.PText:
		return takes(strings.HasPrefix(w.subject[i:], n.Text), len(n.Text))
	case api.PSet:
		return takes(stands(n.Set, w.subject, i), 1)
	case api.PCall:
		r := slices.IndexFunc(w.g.Rules, func(x api.Rule) bool { return x.Name == n.Text })
		return w.from(w.g.Rules[r].Body, i)
	case api.PSeq:
		j := w.from(one, i)
		if j < 0 {
			return -1
		}
		return w.from(other, j)
	case api.PChoice:
		if j := w.from(one, i); j >= 0 {
			return j
		}
		return w.from(other, i)
	case api.PAnd, api.PNot:
		return takes((w.from(one, i) >= 0) == (n.Op == api.PAnd), 0)
	}
	return w.repeat(n, one, i)
}

func (w *walker) repeat(n api.Node, p api.Pattern, i int) int {
	least, most := 1, 1
	switch n.Op {
	case api.PStar:
		least, most = 0, -1
	case api.PPlus:
		most = -1
	case api.POpt:
		least = 0
	case api.PTimes:
		least, most = n.N, n.N
	case api.PLeast:
		least, most = n.N, -1
	case api.PMost:
		least, most = 0, n.N
	}
	for count := 0; count != most; count++ {
		j := w.from(p, i)
		if j < 0 && count < least {
			return -1
		}
		if j < 0 {
			break
		}
		i = j
	}
	return i
}

// stands says whether a byte of a set stands at a place.
func stands(set api.Set, subject string, i int) bool {
	return i < len(subject) && set[subject[i]/64]>>(subject[i]%64)&1 == 1
}

// bears says whether what is known of a pattern bears that it goes from i to j, or fails there (j is -1).
func bears(x api.Firsts, subject string, i, j int) bool {
	isOfSet := stands(x.Set, subject, i)
	switch {
	case x.HeadFail && (j >= 0) != isOfSet:
		return false
	case !x.Empty && j >= 0:
		return isOfSet
	}
	return j <= i || isOfSet
}

func subjectsUpTo(n int) []string {
	all := []string{""}
	for at := 0; len(all[at]) < n; at++ {
		all = append(all, all[at]+"a", all[at]+"b", all[at]+"c")
	}
	return all
}

// 11.3: matches that are told by hand, of a grammar's first rule, from a place of a subject to another one (-1: it fails).
func TestWhatIsKnownIsSoByHand(t *testing.T) {
	type match struct {
		subject string
		from    int
		to      int
	}
	for text, matches := range map[string][]match{
		"'ab' / [0-9]+":                   {{"ab", 0, 2}, {"42", 0, 2}, {"ac", 0, -1}, {"x", 0, -1}, {"", 0, -1}},
		"'a' 'b'*":                        {{"abb", 0, 3}, {"a", 0, 1}, {"b", 0, -1}, {"", 0, -1}, {"ba", 1, 2}},
		"'a'* 'b'":                        {{"aab", 0, 3}, {"b", 0, 1}, {"aa", 0, -1}, {"c", 0, -1}},
		"&'a' .":                          {{"a", 0, 1}, {"b", 0, -1}, {"", 0, -1}},
		"&'ab' 'a'":                       {{"ab", 0, 1}, {"aa", 0, -1}},
		"!'a' .":                          {{"b", 0, 1}, {"a", 0, -1}, {"", 0, -1}},
		"!.":                              {{"", 0, 0}, {"a", 0, -1}, {"a", 1, 1}},
		"&.":                              {{"a", 0, 0}, {"", 0, -1}},
		"[] / 'x'":                        {{"x", 0, 1}, {"y", 0, -1}},
		"[]":                              {{"x", 0, -1}, {"", 0, -1}},
		".":                               {{"\x00", 0, 1}, {"\xff", 0, 1}, {"", 0, -1}},
		"%e":                              {{"", 0, 0}, {"a", 1, 1}},
		"%f":                              {{"", 0, -1}, {"a", 0, -1}},
		"'x' %f":                          {{"x", 0, -1}, {"", 0, -1}},
		"'a'^2":                           {{"aa", 0, 2}, {"ab", 0, -1}, {"b", 0, -1}},
		"'a'^1":                           {{"ab", 0, 1}, {"b", 0, -1}},
		"'a'^+1":                          {{"aab", 0, 2}, {"b", 0, -1}},
		"'a'^+2":                          {{"aaa", 0, 3}, {"ab", 0, -1}, {"b", 0, -1}},
		"'a'^-2":                          {{"aaa", 0, 2}, {"ab", 0, 1}, {"b", 0, 0}, {"", 0, 0}},
		"'a'^0":                           {{"a", 0, 0}, {"", 0, 0}},
		"'a'? / 'b'":                      {{"b", 0, 0}, {"a", 0, 1}},
		"s <- 'x' s / %e":                 {{"xx", 0, 2}, {"y", 0, 0}, {"", 0, 0}},
		"s <- 'a' s 'b' / 'c'":            {{"aacbb", 0, 5}, {"c", 0, 1}, {"aacb", 0, -1}, {"b", 0, -1}},
		"s <- t* u t <- 'x' u? u <- 'y'":  {{"y", 0, 1}, {"xxyy", 0, 4}, {"xy", 0, -1}, {"z", 0, -1}},
		"s <- t u? t <- [ab] u <- 'c'":    {{"ac", 0, 2}, {"b", 0, 1}, {"c", 0, -1}, {"", 0, -1}},
		"s <- 'a' t t <- 'b' t":           {{"abb", 0, -1}, {"", 0, -1}},
		"{| {[a-z]+} (',' {[a-z]+})* |}":  {{"ab,c", 0, 4}, {",", 0, -1}},
		"{~ ('a' -> 'xyz' / .)* ~}":       {{"banana", 0, 6}, {"", 0, 0}},
		"{:k: [0-9]+ :} -> 0":             {{"42", 0, 2}, {"x", 0, -1}},
		"%u{3b1-3c9}":                     {{"\xce\xb1", 0, 2}, {"\xce", 0, -1}, {"a", 0, -1}},
		"s <- &t 'ab' / 'c' t <- 'a' 'b'": {{"ab", 0, 2}, {"c", 0, 1}, {"ac", 0, -1}},
	} {
		g := read(t, text)
		if _, e := ford.Check(g); e != api.OK {
			t.Fatal(text, "is not well formed")
		}
		l, e := first.Rules(g)
		if e != api.OK {
			t.Fatal(text, e)
		}
		for _, m := range matches {
			w := walker{g: g, subject: m.subject, steps: 1 << 20}
			if to := w.from(g.Rules[0].Body, m.from); to != m.to {
				t.Errorf("%s at %d of %q goes to %d, want %d", text, m.from, m.subject, to, m.to)
			}
			if !bears(l[0], m.subject, m.from, m.to) {
				t.Errorf("%s goes from %d to %d of %q, but is %s", text, m.from, m.to, m.subject, told(l[0]))
			}
		}
	}
}

func wellFormedGrammar(x *scramble, n, size int) api.Grammar {
	for {
		g := x.grammar(n, size)
		if _, e := ford.Check(g); e == api.OK {
			return g
		}
	}
}

// eachPlace hands out each place of all short subjects, and where a pattern goes to from there, if there were steps enough.
func eachPlace(g api.Grammar, p api.Pattern, subjects []string, see func(subject string, i, j int)) {
	for _, s := range subjects {
		for i := range len(s) + 1 {
			w := walker{g: g, subject: s, steps: 1 << 11}
			if j := w.from(p, i); w.steps >= 0 {
				see(s, i, j)
			}
		}
	}
}

// 11.3: of well-formed grammars of all sorts, each part of each rule, at each place of all short subjects.
func TestWhatIsKnownIsSo(t *testing.T) {
	x := newScramble()
	subjects := append(subjectsUpTo(2), "aab", "bca", "ccc", "abcab", "caabb")
	seen := map[string]int{}
	for i := range 2500 {
		g := wellFormedGrammar(x, 1+i%4, 1+i%10)
		for r := range g.Rules {
			parts, e := first.Parts(g, r)
			if e != api.OK {
				t.Fatal(text(g), e)
			}
			for at, known := range parts {
				part, _ := tree.Part(g.Rules[r].Body, at)
				eachPlace(g, part, subjects, func(s string, i, j int) {
					if !bears(known, s, i, j) {
						t.Fatalf("%v in %s at %d of %s goes to %d, but is %s", part, text(g), i, s, j, told(known))
					}
					what := "neither"
					if known.HeadFail {
						what = "HeadFail"
					} else if known.Empty {
						what = "Empty"
					}
					if j < 0 {
						what += ", fails"
					}
					seen[what]++
				})
			}
		}
	}
	for _, what := range []string{"neither", "HeadFail", "Empty", "neither, fails", "HeadFail, fails", "Empty, fails"} {
		if seen[what] < 5000 {
			t.Error("too little was seen:", what, seen)
		}
	}
}

// 11.3: so it is of rules as of their parts, and of patterns beside the grammar.
func TestWhatIsKnownOfRulesIsSo(t *testing.T) {
	x := newScramble()
	subjects := append(subjectsUpTo(2), "aab", "bca", "ccc", "abcab")
	for i := range 1500 {
		g := wellFormedGrammar(x, 1+i%5, 1+i%8)
		l, _ := first.Rules(g)
		for r, known := range l {
			beside := list(call(g.Rules[r].Name), call(g.Rules[0].Name), op(api.POpt), op(api.PSeq))
			whole, e := first.Of(g, beside)
			if e != api.OK {
				t.Fatal(text(g), e)
			}
			eachPlace(g, g.Rules[r].Body, subjects, func(s string, i, j int) {
				if !bears(known, s, i, j) {
					t.Fatalf("%d in %s at %d of %s goes to %d, but is %s", r, text(g), i, s, j, told(known))
				}
			})
			eachPlace(g, beside, subjects, func(s string, i, j int) {
				if !bears(whole, s, i, j) {
					t.Fatalf("%v in %s at %d of %s goes to %d, but is %s", beside, text(g), i, s, j, told(whole))
				}
			})
		}
	}
}

// 11.4: where a choice is decided, it does what its first part does if the next byte is of that one's Set, else what its second part does.
func TestDecidedChoicesGoByTheNextByte(t *testing.T) {
	x := newScramble()
	subjects := append(subjectsUpTo(2), "aab", "bca", "ccc", "abcab")
	seen, byBytes, undecided := 0, 0, 0
	for i := range 3000 {
		g := wellFormedGrammar(x, 1+i%4, 1+i%8)
		var names []string
		for _, y := range g.Rules {
			names = append(names, y.Name)
		}
		for range 8 {
			p, q := x.pattern(1+x.below(5), names), x.pattern(1+x.below(5), names)
			choice, e := tree.Join(op(api.PChoice), p, q)
			if e != api.OK {
				t.Fatal(e)
			}
			h := api.Grammar{Rules: append(slices.Clone(g.Rules), rule("choice", choice...))}
			if _, e := ford.Check(h); e != api.OK {
				continue
			}
			is, e := first.Decided(g, p, q)
			if e != api.OK {
				t.Fatal(text(g), e)
			}
			known, _ := first.Of(g, p)
			if !is {
				undecided++
				continue
			}
			eachPlace(g, choice, subjects, func(s string, i, j int) {
				goesBy := q
				if stands(known.Set, s, i) {
					goesBy = p
				}
				w := walker{g: g, subject: s, steps: 1 << 12}
				if alone := w.from(goesBy, i); w.steps >= 0 && alone != j {
					t.Fatalf("%v in %s at %d of %s goes to %d, but %v to %d", choice, text(g), i, s, j, goesBy, alone)
				}
				seen++
				if !known.HeadFail {
					byBytes++
				}
			})
		}
	}
	if min(seen, byBytes, undecided) < 5000 {
		t.Error("too little was seen:", seen, byBytes, undecided)
	}
}

// 11.4: choices that are not decided, and do otherwise than the next byte alone would have it.
func TestUndecidedChoices(t *testing.T) {
	for _, c := range []struct {
		one, other, subject string
		to                  int
	}{{"'ab'", "'ac'", "ac", 2}, {"'ab'", "'c'?", "ax", 0}, {"'a'*", "'b'", "b", 0}, {"'ab'", "&'a'", "ax", 0}, {"!'a'", "'b'", "c", 0}} {
		g := read(t, "s <- "+c.one+" / "+c.other)
		p, q := readPattern(t, c.one), readPattern(t, c.other)
		w := walker{g: g, subject: c.subject, steps: 100}
		if to := w.from(g.Rules[0].Body, 0); to != c.to {
			t.Error(c, to)
		}
		known, _ := first.Of(g, p)
		goesBy := q
		if stands(known.Set, c.subject, 0) {
			goesBy = p
		}
		if to := w.from(goesBy, 0); to == c.to {
			t.Error(c, "does what the next byte says")
		}
		if is, e := first.Decided(g, p, q); is || e != api.OK {
			t.Error(c, is, e)
		}
	}
}
