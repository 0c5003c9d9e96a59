package tree_test

import (
	"slices"
	"strings"
	"testing"

	"harrow/api"
	"harrow/tree"
)

// Patterns that are wrong, each in another way, and what Check says of them.
func wrongPatterns() map[api.Errno][]api.Pattern {
	return map[api.Errno][]api.Pattern{
		api.ErrLong:  {make(api.Pattern, api.MaxNodes+1), row(api.PSeq, 1025)},
		api.ErrOp:    {{op(0)}, {a, op(24)}, {op(-1), op(api.PStar)}},
		api.ErrField: {{text("")}, {call("1")}, {a, {Op: api.PPick, N: 51}}, {{Op: api.PAny, Set: api.Set{1}}}, {{Op: api.PAny, N: 1}}, {{Op: api.PPlace, Text: "x"}}},
		api.ErrParts: {nil, {}, {op(api.PStar)}, {a, b}, {a, op(api.PSeq)}, {a, op(api.PSeq), b}},
		api.ErrDeep:  {tower(api.PNot, 61), rowFromTheRight(api.PSeq, 61)},
	}
}

// T3: the chapter's first example.
func TestPartsOfTheExample(t *testing.T) {
	p := api.Pattern{a, b, op(api.PSeq), a, op(api.PChoice)}
	for at, x := range []struct {
		begin int
		ends  []int
	}{{0, nil}, {1, nil}, {0, []int{0, 1}}, {3, nil}, {0, []int{2, 3}}} {
		if begin, e := tree.Begin(p, at); begin != x.begin || e != api.OK {
			t.Errorf("Begin at %d: %d, %v", at, begin, e)
		}
		if ends, e := tree.Parts(p, at); !slices.Equal(ends, x.ends) || e != api.OK {
			t.Errorf("Parts at %d: %v, %v", at, ends, e)
		}
		if q, e := tree.Part(p, at); !slices.Equal(q, p[x.begin:at+1]) || e != api.OK {
			t.Errorf("Part at %d: %v, %v", at, q, e)
		}
	}
	if h, e := tree.Height(p); h != 3 || e != api.OK {
		t.Errorf("Height: %d, %v", h, e)
	}
	if h, e := tree.Height(p[:3]); h != 2 || e != api.OK {
		t.Errorf("Height of the PSeq: %d, %v", h, e)
	}
}

// T3: the second one, and nodes of one part.
func TestHeight(t *testing.T) {
	for want, p := range map[int]api.Pattern{
		1: {op(api.PEmpty)},
		2: {a, b, op(api.PSeq), a, op(api.PSeq), b, op(api.PSeq)},
		3: {a, b, a, op(api.PSeq), op(api.PSeq)},
		4: {a, op(api.PStar), op(api.PSub), op(api.POpt)},
	} {
		if h, e := tree.Height(p); h != want || e != api.OK {
			t.Errorf("Height(%v): %d, %v", p, h, e)
		}
	}
}

func sameParts(t *testing.T, p api.Pattern) {
	t.Helper()
	if h, e := tree.Height(p); h != heightOf(p, len(p)-1) || e != api.OK {
		t.Fatalf("Height(%v): %d, %v", p, h, e)
	}
	for at := range p {
		begin := beginOf(p, at)
		if got, e := tree.Begin(p, at); got != begin || e != api.OK {
			t.Fatalf("Begin(%v, %d): %d, %v, want %d", p, at, got, e, begin)
		}
		if got, e := tree.Part(p, at); !slices.Equal(got, p[begin:at+1]) || e != api.OK {
			t.Fatalf("Part(%v, %d): %v, %v", p, at, got, e)
		}
		if got, e := tree.Parts(p, at); !slices.Equal(got, endsOf(p, at)) || e != api.OK {
			t.Fatalf("Parts(%v, %d): %v, %v, want %v", p, at, got, e, endsOf(p, at))
		}
	}
}

// T3
func TestParts(t *testing.T) {
	for kind := range table {
		sameParts(t, laid(partsFor(kind), nodeOf(kind)))
		sameParts(t, laid([]api.Pattern{row(api.PSeq, 3), laid(partsFor(kind), nodeOf(kind))}, op(api.PChoice), op(api.PNot)))
	}
	for _, p := range listsOf([]api.Node{a, op(api.PSeq), op(api.PChoice), op(api.PStar)}, 7) {
		if _, e := wantedCheck(p); e == api.OK {
			sameParts(t, p)
		}
	}
	for _, p := range scrambled(400) {
		sameParts(t, p)
	}
}

// T3: a whole pattern at the limit.
func TestPartsOfManyNodes(t *testing.T) {
	p := row(api.PChoice, 1024)
	last := len(p) - 1
	if ends, e := tree.Parts(p, last); !slices.Equal(ends, []int{last - 2, last - 1}) || e != api.OK {
		t.Error("Parts:", ends, e)
	}
	if begin, e := tree.Begin(p, last); begin != 0 || e != api.OK {
		t.Error("Begin:", begin, e)
	}
	if q, e := tree.Part(p, last); !tree.Same(p, q) || e != api.OK {
		t.Error("Part:", len(q), e)
	}
}

// T2, T3: at is none of the nodes' numbers.
func TestOutOfRange(t *testing.T) {
	for _, p := range []api.Pattern{{a}, {a, b, op(api.PSeq)}, row(api.PSeq, 1024)} {
		for _, at := range outside(p) {
			wantNothing(t, p, at, api.ErrRange)
		}
	}
}

// T2: what Check refuses comes first, whatever at is.
func TestPartsOfWhatIsWrong(t *testing.T) {
	for e, l := range wrongPatterns() {
		for _, p := range l {
			for _, at := range append(outside(p), 0, max(0, len(p)-1)) {
				wantNothing(t, p, at, e)
			}
			if h, got := tree.Height(p); h != 0 || got != e {
				t.Errorf("Height(%.3v): %d, %v", p, h, got)
			}
			if l, got := tree.Names(p); len(l) != 0 || got != e {
				t.Errorf("Names(%.3v): %v, %v", p, l, got)
			}
			if n, got := tree.Captures(p); n != 0 || got != e {
				t.Errorf("Captures(%.3v): %d, %v", p, n, got)
			}
		}
	}
	// Nothing of what is ahead of the fault is told.
	p := api.Pattern{call("x"), op(api.PPlace), op(api.PSeq), op(api.PSub), op(24)}
	if l, e := tree.Names(p); len(l) != 0 || e != api.ErrOp {
		t.Error("Names:", l, e)
	}
	if n, e := tree.Captures(p); n != 0 || e != api.ErrOp {
		t.Error("Captures:", n, e)
	}
	wantNothing(t, p, 3, api.ErrOp)
	wantNothing(t, p[:2], 1, api.ErrParts)
}

func wantNothing(t *testing.T, p api.Pattern, at int, want api.Errno) {
	t.Helper()
	if begin, e := tree.Begin(p, at); begin != 0 || e != want {
		t.Errorf("Begin(%.3v, %d): %d, %v, want %v", p, at, begin, e, want)
	}
	if q, e := tree.Part(p, at); len(q) != 0 || e != want {
		t.Errorf("Part(%.3v, %d): %v, %v, want %v", p, at, q, e, want)
	}
	if l, e := tree.Parts(p, at); len(l) != 0 || e != want {
		t.Errorf("Parts(%.3v, %d): %v, %v, want %v", p, at, l, e, want)
	}
	if q, e := tree.Put(p, at, api.Pattern{a}); len(q) != 0 || e != want {
		t.Errorf("Put(%.3v, %d): %v, %v, want %v", p, at, q, e, want)
	}
}

// T4
func TestSame(t *testing.T) {
	one := api.Pattern{nodeOf(api.PSet), nodeOf(api.PText), op(api.PSeq), nodeOf(api.PTimes), nodeOf(api.PString)}
	other := slices.Clone(one)
	if !tree.Same(one, other) {
		t.Error("of a copy: false")
	}
	for at := range one {
		for i, change := range []func(n *api.Node){
			func(n *api.Node) { n.Op++ },
			func(n *api.Node) { n.N++ },
			func(n *api.Node) { n.N += 1 << 32 },
			func(n *api.Node) { n.Text += "\x00" },
			func(n *api.Node) { n.Set[0] ^= 1 },
			func(n *api.Node) { n.Set[3] ^= 1 << 63 },
		} {
			other := slices.Clone(one)
			change(&other[at])
			if tree.Same(one, other) || tree.Same(other, one) {
				t.Errorf("with the node %d changed by %d: true", at, i)
			}
		}
	}
	for n := range one {
		if tree.Same(one, one[:n]) || tree.Same(one[:n], one) {
			t.Errorf("with the first %d nodes: true", n)
		}
	}
}

// T4: whether they are right or not, and however long.
func TestSameOfWhatIsWrong(t *testing.T) {
	if !tree.Same(nil, nil) || !tree.Same(nil, api.Pattern{}) || !tree.Same(api.Pattern{}, nil) {
		t.Error("of no node: false")
	}
	if tree.Same(nil, api.Pattern{{}}) || tree.Same(api.Pattern{{}}, nil) {
		t.Error("of no node and a zero one: true")
	}
	all := slices.Concat(wrongPatterns()[api.ErrOp], wrongPatterns()[api.ErrField], wrongPatterns()[api.ErrLong], wrongPatterns()[api.ErrDeep])
	for i, p := range all {
		for j, q := range all {
			if tree.Same(p, slices.Clone(q)) != (i == j) {
				t.Errorf("of %d and %d: %v", i, j, i != j)
			}
		}
	}
	long := make(api.Pattern, 1<<16)
	other := slices.Clone(long)
	if !tree.Same(long, other) {
		t.Error("of long ones: false")
	}
	other[len(other)-1].N = 1
	if tree.Same(long, other) {
		t.Error("of long ones that end otherwise: true")
	}
}

// T6
func TestNames(t *testing.T) {
	for _, x := range []struct {
		p    api.Pattern
		want string
	}{
		{api.Pattern{a}, ""},
		{api.Pattern{call("x")}, "x"},
		{api.Pattern{call("x"), call("y"), op(api.PSeq), call("x"), op(api.PChoice)}, "x y"},
		{api.Pattern{call("y"), call("x"), op(api.PSeq), call("y"), op(api.PChoice), call("b"), op(api.PSeq)}, "y x b"},
		// Names that differ in one byte, and texts and groups that are no calls.
		{api.Pattern{call("x"), call("X"), op(api.PSeq), call("xx"), op(api.PSeq), call("_x"), op(api.PSeq)}, "x X xx _x"},
		{api.Pattern{text("z"), call("x"), op(api.PSeq), {Op: api.PGroup, Text: "g"}, {Op: api.PString, Text: "s"}, op(api.PNot)}, "x"},
	} {
		if l, e := tree.Names(x.p); strings.Join(l, " ") != x.want || e != api.OK {
			t.Errorf("Names(%v): %v, %v, want %s", x.p, l, e, x.want)
		}
	}
}

// T6: as many names as a pattern may have, all different, each of them twice.
func TestManyNames(t *testing.T) {
	name := func(i int) string { return "n" + strings.Repeat("_", i%31) + string([]byte{byte('a' + i/31)}) }
	p := api.Pattern{call(name(0))}
	for i := range 1023 {
		p = append(p, call(name((i+1)%512)), op(api.PSeq))
	}
	l, e := tree.Names(p)
	if len(l) != 512 || e != api.OK {
		t.Fatal(len(l), e)
	}
	for i := range l {
		if l[i] != name(i) {
			t.Fatalf("the name %d: %s", i, l[i])
		}
	}
}

// T6
func TestNamesAndCapturesOfScrambled(t *testing.T) {
	for _, p := range scrambled(500) {
		var names []string
		count := 0
		for _, n := range p {
			if n.Op == api.PCall && !strings.Contains(" "+strings.Join(names, " ")+" ", " "+n.Text+" ") {
				names = append(names, n.Text)
			}
			switch n.Op {
			case api.PPlace, api.PSub, api.PGroup, api.PList, api.PSubst, api.PString, api.PPick:
				count++
			}
		}
		if l, e := tree.Names(p); !slices.Equal(l, names) || e != api.OK {
			t.Fatalf("Names(%v): %v, %v, want %v", p, l, e, names)
		}
		if n, e := tree.Captures(p); n != count || e != api.OK {
			t.Fatalf("Captures(%v): %d, %v, want %d", p, n, e, count)
		}
	}
}

// T6: which kinds capture.
func TestCaptures(t *testing.T) {
	capturing := map[int]int{api.PPlace: 1, api.PSub: 1, api.PGroup: 1, api.PList: 1, api.PSubst: 1, api.PString: 1, api.PPick: 1}
	for kind := range table {
		if n, e := tree.Captures(laid(partsFor(kind), nodeOf(kind))); n != capturing[kind] || e != api.OK {
			t.Errorf("of the kind %d: %d, %v", kind, n, e)
		}
	}
	if n, e := tree.Captures(api.Pattern{op(api.PPlace), op(api.PSub), op(api.PPlace), op(api.PSeq), op(api.PList)}); n != 4 || e != api.OK {
		t.Error("of four:", n, e)
	}
}
