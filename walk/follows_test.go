package walk_test

import (
	"slices"
	"testing"
	"unsafe"

	"harrow/api"
	"harrow/empty"
	"harrow/walk"
)

// eachWalk hands out walks of grammars of all sorts that take at most MaxItems steps.
func eachWalk(t *testing.T, n int, see func(g api.Grammar, r int, s string, at int, x api.Result, l []api.Judgement)) {
	t.Helper()
	x := newScramble()
	for i := range n {
		g := x.wellFormed(1+i%4, 1+i%12)
		s := x.subject(6)
		r, at := x.below(len(g.Rules)), x.below(len(s)+1)
		if l, e := walk.Derive(g, r, s, at, api.MaxItems); e == api.OK {
			y, _, _ := walk.Walk(g, r, s, at, api.MaxItems)
			see(g, r, s, at, y, l)
		}
	}
}

// K5: a greater most changes nothing, where Walk is not tired; nor does it in Ends and Derive.
func TestGreaterMost(t *testing.T) {
	eachWalk(t, 500, func(g api.Grammar, r int, s string, at int, x api.Result, l []api.Judgement) {
		isTired := true
		for most := range len(l) + 5 {
			y, n, e := walk.Walk(g, r, s, at, most)
			if e == api.ErrTired && isTired {
				continue
			}
			isTired = false
			if e != api.OK || !sameResult(x, y) || n != len(l) {
				t.Fatalf("Walk(%s, %d, %q, %d, %d): %s, %d, %v, want %s, %d", text(g), r, s, at, most, told(y), n, e, told(x), len(l))
			}
		}
		if isTired {
			t.Fatalf("Walk(%s, %d, %q, %d) is always tired", text(g), r, s, at)
		}
		ends, e := walk.Ends(g, r, s, api.MaxSteps)
		for most := 1; most < api.MaxSteps; most *= 2 {
			if l, f := walk.Ends(g, r, s, most); f == api.OK && !slices.Equal(l, ends) || f != api.OK && f != api.ErrTired && f != e {
				t.Fatalf("Ends(%s, %d, %q, %d): %v, %v, want %v, %v", text(g), r, s, most, l, f, ends, e)
			}
		}
	})
}

// K5: what Derive tells holds, and its last judgement is what Walk says; with a judgement less it holds up to what needs it.
func TestWhatIsDerivedHolds(t *testing.T) {
	lacking := 0
	eachWalk(t, 3000, func(g api.Grammar, r int, s string, at int, x api.Result, l []api.Judgement) {
		holds(t, g, s, l)
		end := x.End
		if x.Kind == api.Failed {
			end = -1
		}
		if last := l[len(l)-1]; last != of(r, len(g.Rules[r].Body)-1, at, end) {
			t.Fatalf("Derive(%s, %d, %q, %d): %v, but Walk %s", text(g), r, s, at, l, told(x))
		}
		for i := range min(len(l), 50) {
			holds(t, g, s, l[:i])
			less := slices.Delete(slices.Clone(l), i, i+1)
			is, first, e := walk.Holds(g, s, less)
			if !is && first < i || e != api.OK {
				t.Fatalf("Holds(%s, %q, %v): %v, %d, %v", text(g), s, less, is, first, e)
			}
			if !is {
				lacking++
			}
		}
	})
	if lacking < 1000 {
		t.Error("too few were lacking:", lacking)
	}
}

// K5: a list with one End changed does not hold: what was told otherwise would be told of a part at a place where the walk found something else.
func TestChangedEnds(t *testing.T) {
	eachWalk(t, 1000, func(g api.Grammar, r int, s string, at int, x api.Result, l []api.Judgement) {
		for i := range min(len(l), 30) {
			for end := -2; end <= len(s)+1; end++ {
				if end == l[i].End {
					continue
				}
				changed := slices.Clone(l)
				changed[i].End = end
				holdsUpTo(t, g, s, changed, i)
			}
		}
	})
}

// K5: all that can be told of a small grammar, put down one by one as long as anything follows: it is one end of each part at each place, and that is what the relation says.
func TestWhateverHoldsIsSo(t *testing.T) {
	x := newScramble()
	for i := range 80 {
		g := x.wellFormed(1+i%3, 1+i%5)
		s := x.subject(3)
		l := saturated(t, g, s)
		found := map[api.Judgement]int{}
		for _, y := range l {
			end := y.End
			y.End = 0
			if _, isThere := found[y]; isThere {
				t.Fatalf("%s, %q: %v goes to two ends", text(g), s, y)
			}
			found[y] = end
			m := model{g: g, subject: s}
			if want, _ := m.part(y.Rule, y.Node, partOf(g, y), y.At, 0); want != end || m.isOver {
				t.Fatalf("%s, %q: %v holds with %d, want %d", text(g), s, y, end, want)
			}
			if y.Node == len(g.Rules[y.Rule].Body)-1 {
				z, _, e := walk.Walk(g, y.Rule, s, y.At, enough)
				if is := z.Kind == api.Failed && end == -1 || z.Kind == api.Matched && z.End == end; !is || e != api.OK {
					t.Fatalf("%s, %q: %v holds with %d, but Walk %s", text(g), s, y, end, told(z))
				}
			}
		}
		parts := 0
		for _, y := range g.Rules {
			parts += len(y.Body)
		}
		if len(l) != parts*(len(s)+1) {
			t.Fatalf("%s, %q: %d judgements hold, of %d parts at %d places", text(g), s, len(l), parts, len(s)+1)
		}
	}
}

func partOf(g api.Grammar, y api.Judgement) api.Pattern {
	missing, at := 1, y.Node+1
	body := g.Rules[y.Rule].Body
	for missing > 0 {
		at--
		missing--
		missing += arity(body[at].Op)
	}
	return body[at : y.Node+1]
}

func arity(k int) int {
	switch {
	case k == api.PSeq || k == api.PChoice:
		return 2
	case k <= api.PCall || k == api.PPlace:
		return 0
	}
	return 1
}

// saturated is all judgements that follow from others that do, each once.
func saturated(t *testing.T, g api.Grammar, s string) []api.Judgement {
	t.Helper()
	var all, l []api.Judgement
	for r, x := range g.Rules {
		for node := range x.Body {
			for at := -1; at <= len(s)+1; at++ {
				for end := -2; end <= len(s)+1; end++ {
					all = append(all, of(r, node, at, end))
				}
			}
		}
	}
	for size := -1; size < len(l); {
		size = len(l)
		for _, y := range all {
			if slices.Contains(l, y) {
				continue
			}
			more := append(slices.Clone(l), y)
			is, first, e := walk.Holds(g, s, more)
			if e != api.OK || !is && first != len(l) {
				t.Fatalf("Holds(%s, %q, %v): %v, %d, %v", text(g), s, more, is, first, e)
			}
			if is {
				l = more
			}
		}
	}
	return l
}

// K5: a rule that goes from a place to itself may match nothing; one that goes somewhere goes on, to a place of the subject; its captures lie between both, each within the one around it, in order.
func TestWhereRulesGo(t *testing.T) {
	stayed, captured := 0, 0
	eachWalk(t, 5000, func(g api.Grammar, r int, s string, at int, x api.Result, _ []api.Judgement) {
		if x.Kind == api.Failed {
			return
		}
		if x.End < at || x.End > len(s) {
			t.Fatalf("Walk(%s, %d, %q, %d): %s", text(g), r, s, at, told(x))
		}
		if x.End == at {
			stayed++
			if known, e := empty.Rules(g); !known[r].Nullable || e != api.OK {
				t.Fatalf("Walk(%s, %d, %q, %d): %s, but %v", text(g), r, s, at, told(x), known[r])
			}
		}
		if rest, is := lie(x.Caps, len(x.Caps), at, x.End); !is || len(rest) > 0 {
			t.Fatalf("Walk(%s, %d, %q, %d): %s", text(g), r, s, at, told(x))
		}
		captured += len(x.Caps)
	})
	if min(stayed, captured) < 1000 {
		t.Error("too little was seen:", stayed, captured)
	}
}

// lie says whether so many captures at most of a list's front lie from one place to another, in order, with what is within them; and what is left of the list.
func lie(l []api.Cap, n, from, to int) ([]api.Cap, bool) {
	for ; n > 0 && len(l) > 0; n-- {
		c := l[0]
		if c.From < from || c.To < c.From || c.To > to || c.Kids < 0 || c.Kids >= len(l) || c.Kind == api.KPlace && (c.Kids > 0 || c.From < c.To) {
			return l, false
		}
		rest, is := lie(l[1:], c.Kids, c.From, c.To)
		if !is {
			return rest, false
		}
		l, from = rest, c.To
	}
	return l, true
}

// An answer is all that the four calls tell.
type answer struct {
	result     api.Result
	steps      int
	ends       []int
	judgements []api.Judgement
	is         bool
	first      int
}

func answerOf(t *testing.T, g api.Grammar, r int, s string, at int, l []api.Judgement) answer {
	t.Helper()
	var a answer
	var e, f, h, k api.Errno
	a.result, a.steps, e = walk.Walk(g, r, s, at, enough)
	a.ends, f = walk.Ends(g, r, s, enough)
	a.judgements, h = walk.Derive(g, r, s, at, api.MaxItems)
	a.is, a.first, k = walk.Holds(g, s, l)
	if e != api.OK || f != api.OK || h != api.OK || k != api.OK {
		t.Fatal(text(g), e, f, h, k)
	}
	return a
}

func (a answer) same(b answer) bool {
	return sameResult(a.result, b.result) && a.steps == b.steps && slices.Equal(a.ends, b.ends) && slices.Equal(a.judgements, b.judgements) && a.is == b.is && a.first == b.first
}

// spoil writes over all that was answered, and over the room behind it.
func (a answer) spoil() {
	for i := range a.result.Caps[:cap(a.result.Caps)] {
		a.result.Caps[:cap(a.result.Caps)][i] = api.Cap{Kind: -7, From: -7, To: -7, Kids: -7, N: -7, Text: "spoilt"}
	}
	for i := range a.ends[:cap(a.ends)] {
		a.ends[:cap(a.ends)][i] = -7
	}
	for i := range a.judgements[:cap(a.judgements)] {
		a.judgements[:cap(a.judgements)][i] = of(-7, -7, -7, -7)
	}
}

func (a answer) cloned() answer {
	a.result.Caps = slices.Clone(a.result.Caps)
	a.ends = slices.Clone(a.ends)
	a.judgements = slices.Clone(a.judgements)
	return a
}

// R4, R7: what is handed in stays as it is, with the room behind it, and nothing is read there; what is written into an answer, and into the room behind it, changes no later answer and nothing that was handed in; the same call tells the same.
func TestNothingIsShared(t *testing.T) {
	grammars := []api.Grammar{
		read(t, "s <- {| {:k: t :} ('a' -> 'x%1' / {~ {.} ~} -> 1)* |} {} t <- {[a-c]} &{.} / {}"),
		read(t, "{'a'} {'b'} / {.}* {:k: {} :}"),
		read(t, "s <- 'a' s 'b' / !{.} / {{'c'}}"),
	}
	x := newScramble()
	for i := range 300 {
		grammars = append(grammars, x.wellFormed(1+i%4, 1+i%8))
	}
	for _, g := range grammars {
		g, s := roomy(g), "aabc"[x.below(4):]
		r, at := x.below(len(g.Rules)), x.below(len(s)+1)
		l, e := walk.Derive(g, r, s, at, api.MaxItems)
		if e != api.OK {
			continue
		}
		l = x.spoilt(append(l, l...))
		l = append(l, of(0, 0, 0, -1), of(5, 5, 5, 5))[:len(l)]
		before, given := cloned(g), slices.Clone(l[:len(l)+2])
		a := answerOf(t, g, r, s, at, l)
		want := a.cloned()
		b := answerOf(t, g, r, s, at, l)
		a.spoil()
		if !b.same(want) || !answerOf(t, g, r, s, at, l).same(want) {
			t.Fatalf("%s, %d, %q, %d: the answer is another one, once one was spoilt", text(g), r, s, at)
		}
		if !sameRules(g, before) || !slices.Equal(l[:len(l)+2], given) {
			t.Fatalf("%s, %d, %q, %d: what was handed in is another one", text(g), r, s, at)
		}
		if !answerOf(t, before, r, s, at, slices.Clone(l)).same(want) {
			t.Fatalf("%s, %d, %q, %d: what lies behind the lists' lengths shows", text(g), r, s, at)
		}
	}
}

// roomy is a grammar with room behind its lists, in which something stands.
func roomy(g api.Grammar) api.Grammar {
	var rules []api.Rule
	for _, x := range g.Rules {
		body := append(slices.Clone(x.Body), op(api.PFail), call("nobody"))
		rules = append(rules, rule(x.Name, body[:len(x.Body)]...))
	}
	rules = append(rules, rule("s", op(api.PAny)), rule("nobody", op(-1)))
	return api.Grammar{Rules: rules[:len(g.Rules)]}
}

// cloned is a grammar with all that lies behind its lists' lengths.
func cloned(g api.Grammar) api.Grammar {
	rules := slices.Clone(g.Rules[:cap(g.Rules)])
	for i, x := range rules {
		rules[i].Body = slices.Clone(x.Body[:cap(x.Body)])[:len(x.Body)]
	}
	return api.Grammar{Rules: rules[:len(g.Rules)]}
}

// sameRules holds grammars against one another with what lies behind their lists' lengths, as far as both have it.
func sameRules(g, h api.Grammar) bool {
	a, b := g.Rules[:cap(g.Rules)], h.Rules[:cap(h.Rules)]
	n := min(len(a), len(b))
	if n < len(g.Rules) || len(g.Rules) != len(h.Rules) {
		return false
	}
	return slices.EqualFunc(a[:n], b[:n], func(x, y api.Rule) bool {
		m := min(cap(x.Body), cap(y.Body))
		return x.Name == y.Name && len(x.Body) == len(y.Body) && slices.Equal(x.Body[:m], y.Body[:m])
	})
}

// R4: the texts of captures are memory of their own.
func TestTextsAreCopied(t *testing.T) {
	for _, kind := range []int{api.PGroup, api.PString} {
		name := times("k", 20)
		g := alone(op(api.PAny), worded(kind, name), counted(api.PTimes, 2))
		var texts []string
		for range 2 {
			x, _, e := walk.Walk(g, 0, "ab", 0, 9)
			if e != api.OK || len(x.Caps) != 2 || x.Caps[0].Text != name || x.Caps[1].Text != name {
				t.Fatal(x, e)
			}
			texts = append(texts, x.Caps[0].Text)
		}
		if at := unsafe.StringData(texts[0]); at == unsafe.StringData(name) || at == unsafe.StringData(texts[1]) {
			t.Error("a text is shared")
		}
	}
}

// R3: a list without an element may be nil or empty.
func TestNilAndEmpty(t *testing.T) {
	g := read(t, "'a'")
	for _, l := range [][]api.Judgement{nil, {}} {
		holds(t, g, "", l)
		holds(t, g, "a", l)
		refusesToHold(t, api.Grammar{}, "a", l, api.ErrShape)
	}
	for _, p := range []api.Pattern{nil, {}} {
		refuses(t, alone(p...), 0, "", 0, 1, api.ErrParts)
	}
	for _, l := range [][]api.Rule{nil, {}} {
		refuses(t, api.Grammar{Rules: l}, 0, "", 0, 1, api.ErrShape)
	}
}

// R7: calls tell each other nothing, whatever came between them.
func TestCallsTellEachOtherNothing(t *testing.T) {
	g := read(t, "s <- {'a' s 'b'} / {}")
	want := answerOf(t, g, 0, "aabb", 0, nil).cloned()
	between := []func(){
		func() { walk.Walk(g, 0, "aabb", 0, 7) },
		func() { walk.Walk(stair(3), 0, times("a", 6000), 0, api.MaxSteps) },
		func() { walk.Ends(g, 0, "aaaa", 20) },
		func() { walk.Derive(g, 0, "ab", 1, 2) },
		func() { walk.Holds(g, "ab", []api.Judgement{j(0, 0, 1), j(0, 0, 2)}) },
		func() { walk.Walk(read(t, "s <- {'x'} / {{.}}"), 0, "aabb", 0, 10) },
	}
	for _, call := range between {
		call()
		if !answerOf(t, g, 0, "aabb", 0, nil).same(want) {
			t.Error("a call shows in a later one")
		}
	}
}
