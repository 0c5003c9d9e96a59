package tree_test

import (
	"slices"
	"strings"
	"testing"
	"unsafe"

	"harrow/api"
	"harrow/tree"
)

// T5: the chapter's examples.
func TestJoinAndPutOfTheExample(t *testing.T) {
	if p, e := tree.Join(op(api.PStar), api.Pattern{a}); !slices.Equal(p, api.Pattern{a, op(api.PStar)}) || e != api.OK {
		t.Error("Join:", p, e)
	}
	if p, e := tree.Join(op(api.PStar), api.Pattern{a}, api.Pattern{b}); len(p) != 0 || e != api.ErrParts {
		t.Error("Join of too many:", p, e)
	}
	if p, e := tree.Put(api.Pattern{a, b, op(api.PSeq)}, 0, api.Pattern{b, op(api.PStar)}); !slices.Equal(p, api.Pattern{b, op(api.PStar), b, op(api.PSeq)}) || e != api.OK {
		t.Error("Put:", p, e)
	}
}

// T5: each kind with each number of parts.
func TestJoin(t *testing.T) {
	parts := []api.Pattern{row(api.PSeq, 3), {b}, tower(api.PNot, 4), {a}}
	for kind, l := range table {
		for count := range len(parts) + 1 {
			p, e := tree.Join(nodeOf(kind), parts[:count]...)
			if count != l.parts {
				if len(p) != 0 || e != api.ErrParts {
					t.Errorf("the kind %d of %d parts: %v, %v", kind, count, p, e)
				}
				continue
			}
			if want := laid(parts[:count], nodeOf(kind)); !slices.Equal(p, want) || e != api.OK {
				t.Errorf("the kind %d: %v, %v, want %v", kind, p, e, want)
			}
		}
	}
	if p, e := tree.Join(a, nil); len(p) != 0 || e != api.ErrParts {
		t.Error("a text with a part that is nothing:", p, e)
	}
	if p, e := tree.Join(a, []api.Pattern{}...); !slices.Equal(p, api.Pattern{a}) || e != api.OK {
		t.Error("a text with no part:", p, e)
	}
	if p, e := tree.Join(op(api.PSeq), make([]api.Pattern, api.MaxItems+1)...); len(p) != 0 || e != api.ErrParts {
		t.Error("a PSeq with very many parts:", p, e)
	}
}

// T5: the node by itself, all that its fields may be.
func TestJoinOfWrongNodes(t *testing.T) {
	for _, kind := range noKinds() {
		for count := range 3 {
			if p, e := tree.Join(op(kind), []api.Pattern{{a}, {b}}[:count]...); len(p) != 0 || e != api.ErrOp {
				t.Errorf("the kind %d of %d parts: %v, %v", kind, count, p, e)
			}
		}
	}
	for kind := range table {
		for _, s := range edgeTexts() {
			for _, n := range edgeNumbers() {
				node := api.Node{Op: kind, N: n, Text: s, Set: edgeSets()[(len(s)+n&7)%6]}
				want := wrongAlone(node)
				if p, e := tree.Join(node, partsFor(kind)...); e != want || (want != api.OK) != (len(p) == 0) {
					t.Fatalf("Join(%v): %v, %v, want %v", node, p, e, want)
				}
			}
		}
	}
}

// T5: which error is told, where more than one thing is wrong.
func TestJoinTellsTheFirst(t *testing.T) {
	long, deep := row(api.PSeq, 1025), tower(api.PNot, 61)
	for i, x := range []struct {
		n     api.Node
		parts []api.Pattern
		want  api.Errno
	}{
		{api.Node{Op: 24, N: 1}, []api.Pattern{{}, {}, {}}, api.ErrOp},
		{api.Node{Op: api.PStar, N: 1}, []api.Pattern{{op(24)}, {a}}, api.ErrField},
		{api.Node{Op: api.PStar, N: 1}, []api.Pattern{{op(24)}}, api.ErrField},
		{op(api.PStar), []api.Pattern{{op(24)}, {a}}, api.ErrParts},
		{op(api.PStar), nil, api.ErrParts},
		{op(api.PSeq), []api.Pattern{{op(24)}}, api.ErrParts},
		{op(api.PSeq), []api.Pattern{{op(24)}, {text("")}}, api.ErrOp},
		{op(api.PSeq), []api.Pattern{{text("")}, {op(24)}}, api.ErrField},
		{op(api.PSeq), []api.Pattern{{a}, {op(24)}}, api.ErrOp},
		{op(api.PSeq), []api.Pattern{deep, long}, api.ErrDeep},
		{op(api.PSeq), []api.Pattern{long, deep}, api.ErrLong},
		{op(api.PSeq), []api.Pattern{{a}, long}, api.ErrLong},
		{op(api.PSeq), []api.Pattern{{a}, nil}, api.ErrParts},
		// Parts that are none by themselves, though they would be a whole together.
		{op(api.PStar), []api.Pattern{nil}, api.ErrParts},
		{op(api.PSeq), []api.Pattern{{a, b}, {op(api.PSeq), a}}, api.ErrParts},
		{op(api.PSeq), []api.Pattern{nil, {a, b}}, api.ErrParts},
		{op(api.PSeq), []api.Pattern{{a, b}, nil}, api.ErrParts},
		// A whole that is too long is told ahead of one that is too deep.
		{op(api.PSeq), []api.Pattern{row(api.PSeq, 1024), tower(api.PNot, 60)}, api.ErrLong},
		{op(api.PSeq), []api.Pattern{row(api.PSeq, 900), tower(api.PNot, 60)}, api.ErrDeep},
	} {
		if p, e := tree.Join(x.n, x.parts...); len(p) != 0 || e != x.want {
			t.Errorf("%d: %.3v, %v, want %v", i, p, e, x.want)
		}
	}
	for want, l := range wrongPatterns() {
		for _, p := range l {
			if q, e := tree.Join(op(api.PNot), p); len(q) != 0 || e != want {
				t.Errorf("of %.3v: %v, %v", p, q, e)
			}
			if q, e := tree.Join(op(api.PChoice), api.Pattern{a}, p); len(q) != 0 || e != want {
				t.Errorf("of a and %.3v: %v, %v", p, q, e)
			}
		}
	}
}

// T5: wholes at the limits, and above.
func TestJoinAtTheLimits(t *testing.T) {
	if p, e := tree.Join(op(api.PSub), row(api.PSeq, 1024)); len(p) != api.MaxNodes || e != api.OK {
		t.Error("as many nodes as there may be:", len(p), e)
	}
	full := append(row(api.PSeq, 1024), op(api.PSub))
	if p, e := tree.Join(op(api.PSub), full); len(p) != 0 || e != api.ErrLong {
		t.Error("one more:", len(p), e)
	}
	if p, e := tree.Join(op(api.PSeq), full, full); len(p) != 0 || e != api.ErrLong {
		t.Error("twice as many:", len(p), e)
	}
	if p, e := tree.Join(op(api.PSub), tower(api.PNot, 59)); len(p) != 60 || e != api.OK {
		t.Error("as high as it may be:", len(p), e)
	}
	if p, e := tree.Join(op(api.PSub), tower(api.PNot, 60)); len(p) != 0 || e != api.ErrDeep {
		t.Error("one higher:", len(p), e)
	}
	if p, e := tree.Join(op(api.PSeq), rowFromTheRight(api.PSeq, 60), api.Pattern{a}); len(p) != 121 || e != api.OK {
		t.Error("a high row that goes on:", len(p), e)
	}
	if p, e := tree.Join(op(api.PChoice), rowFromTheRight(api.PSeq, 60), api.Pattern{a}); len(p) != 0 || e != api.ErrDeep {
		t.Error("a high row under another kind:", len(p), e)
	}
	if p, e := tree.Join(op(api.PSeq), api.Pattern{a}, rowFromTheRight(api.PSeq, 60)); len(p) != 0 || e != api.ErrDeep {
		t.Error("a high row behind:", len(p), e)
	}
}

// T5: the part that goes, and all that stays.
func TestPut(t *testing.T) {
	p := api.Pattern{a, b, op(api.PSeq), call("x"), op(api.PNot), op(api.PChoice)}
	q := api.Pattern{op(api.PAny), op(api.PSub)}
	for at, want := range []api.Pattern{
		{q[0], q[1], b, op(api.PSeq), call("x"), op(api.PNot), op(api.PChoice)},
		{a, q[0], q[1], op(api.PSeq), call("x"), op(api.PNot), op(api.PChoice)},
		{q[0], q[1], call("x"), op(api.PNot), op(api.PChoice)},
		{a, b, op(api.PSeq), q[0], q[1], op(api.PNot), op(api.PChoice)},
		{a, b, op(api.PSeq), q[0], q[1], op(api.PChoice)},
		{q[0], q[1]},
	} {
		if got, e := tree.Put(p, at, q); !slices.Equal(got, want) || e != api.OK {
			t.Errorf("at %d: %v, %v, want %v", at, got, e, want)
		}
	}
}

// T5: p, then at, then q, then the whole.
func TestPutTellsTheFirst(t *testing.T) {
	p := api.Pattern{a, b, op(api.PSeq)}
	for want, l := range wrongPatterns() {
		for _, wrong := range l {
			if got, e := tree.Put(p, 1, wrong); len(got) != 0 || e != want {
				t.Errorf("Put of %.3v: %v, %v", wrong, got, e)
			}
			if got, e := tree.Put(p, 3, wrong); len(got) != 0 || e != api.ErrRange {
				t.Errorf("Put of %.3v out of range: %v, %v", wrong, got, e)
			}
			if got, e := tree.Put(p, 2, wrong); len(got) != 0 || e != want {
				t.Errorf("Put of %.3v for all: %v, %v", wrong, got, e)
			}
			if got, e := tree.Put(wrong, 9999, api.Pattern{op(24)}); len(got) != 0 || e != want {
				t.Errorf("Put into %.3v: %v, %v", wrong, got, e)
			}
		}
	}
	for _, at := range outside(p) {
		if got, e := tree.Put(p, at, api.Pattern{b}); len(got) != 0 || e != api.ErrRange {
			t.Errorf("at %d: %v, %v", at, got, e)
		}
	}
	// A node that is a whole with what stands ahead of it is none by itself.
	if got, e := tree.Put(p, 1, api.Pattern{op(api.PStar)}); len(got) != 0 || e != api.ErrParts {
		t.Error("a star without a part:", got, e)
	}
}

// T5: wholes at the limits, and above.
func TestPutAtTheLimits(t *testing.T) {
	p := row(api.PSeq, 1024)
	if got, e := tree.Put(p, 5, api.Pattern{a, op(api.PStar)}); len(got) != api.MaxNodes || e != api.OK {
		t.Error("as many nodes as there may be:", len(got), e)
	}
	if got, e := tree.Put(p, 5, api.Pattern{a, b, op(api.PSeq)}); len(got) != 0 || e != api.ErrLong {
		t.Error("one more:", len(got), e)
	}
	if got, e := tree.Put(p, 5, p); len(got) != 0 || e != api.ErrLong {
		t.Error("twice as many:", len(got), e)
	}
	if got, e := tree.Put(p, len(p)-1, p); !slices.Equal(got, p) || e != api.OK {
		t.Error("all in the place of all:", len(got), e)
	}
	high := tower(api.PNot, 31)
	if got, e := tree.Put(high, 0, tower(api.PSub, 30)); len(got) != 60 || e != api.OK {
		t.Error("as high as it may be:", len(got), e)
	}
	if got, e := tree.Put(high, 0, high); len(got) != 0 || e != api.ErrDeep {
		t.Error("one higher:", len(got), e)
	}
	// A row becomes higher, if its first part is no longer of its kind, though that is no higher.
	under := append(laid([]api.Pattern{row(api.PSeq, 2)}, a, op(api.PSeq)), tower(api.PNot, 58)[1:]...)
	if got, e := tree.Put(under, 2, row(api.PSeq, 3)); len(got) != len(under)+2 || e != api.OK {
		t.Error("a longer row:", len(got), e)
	}
	if got, e := tree.Put(under, 2, row(api.PChoice, 2)); len(got) != len(under) || e != api.OK {
		t.Error("a choice below 60:", len(got), e)
	}
	if got, e := tree.Put(append(under, op(api.PSub)), 2, row(api.PChoice, 2)); len(got) != 0 || e != api.ErrDeep {
		t.Error("a choice below 61:", len(got), e)
	}
}

// T7: of patterns of all kinds, and each of their nodes.
func TestWhatFollows(t *testing.T) {
	all := scrambled(300)
	for i, p := range all {
		height, _ := tree.Height(p)
		for at, n := range p {
			part := partsLieInOrder(t, p, at)
			if _, e := tree.Check(part); e != api.OK {
				t.Fatalf("the part of %v at %d: %v", p, at, e)
			}
			if h, e := tree.Height(part); h > height || e != api.OK {
				t.Fatalf("the part of %v at %d: %d high, %v, and the whole %d", p, at, h, e, height)
			}
			if got, e := tree.Join(n, ownParts(t, p, at)...); !tree.Same(got, part) || e != api.OK {
				t.Fatalf("the node %d of %v joined anew: %v, %v", at, p, got, e)
			}
			if got, e := tree.Put(p, at, part); !tree.Same(got, p) || e != api.OK {
				t.Fatalf("the part of %v at %d in its own place: %v, %v", p, at, got, e)
			}
			putAndTaken(t, p, at, all[(i+at)%len(all)])
		}
	}
}

func partsLieInOrder(t *testing.T, p api.Pattern, at int) api.Pattern {
	t.Helper()
	next, e := tree.Begin(p, at)
	if e != api.OK {
		t.Fatalf("Begin(%v, %d): %v", p, at, e)
	}
	ends, e := tree.Parts(p, at)
	if e != api.OK {
		t.Fatalf("Parts(%v, %d): %v", p, at, e)
	}
	for _, end := range ends {
		if begin, e := tree.Begin(p, end); begin != next || e != api.OK {
			t.Fatalf("a part of the node %d of %v begins at %d, %v, want %d", at, p, begin, e, next)
		}
		next = end + 1
	}
	if next != at {
		t.Fatalf("the last part of the node %d of %v ends ahead of %d", at, p, next)
	}
	part, e := tree.Part(p, at)
	if e != api.OK {
		t.Fatalf("Part(%v, %d): %v", p, at, e)
	}
	return part
}

func ownParts(t *testing.T, p api.Pattern, at int) []api.Pattern {
	t.Helper()
	ends, _ := tree.Parts(p, at)
	var parts []api.Pattern
	for _, end := range ends {
		part, e := tree.Part(p, end)
		if e != api.OK {
			t.Fatalf("Part(%v, %d): %v", p, end, e)
		}
		parts = append(parts, part)
	}
	return parts
}

func putAndTaken(t *testing.T, p api.Pattern, at int, q api.Pattern) {
	t.Helper()
	whole, e := tree.Put(p, at, q)
	if e != api.OK {
		t.Fatalf("Put(%v, %d, %v): %v", p, at, q, e)
	}
	begin, _ := tree.Begin(p, at)
	if got, e := tree.Part(whole, begin+len(q)-1); !tree.Same(got, q) || e != api.OK {
		t.Fatalf("what was put into %v at %d: %v, %v, want %v", p, at, got, e, q)
	}
}

// R4: nothing that is handed in is changed, what lies behind its length neither; an answer has memory of its own, texts too.
func TestNewMemory(t *testing.T) {
	spare := append(api.Pattern{text(strings.Repeat("l", 9)), call("name"), op(api.PSeq), {Op: api.PGroup, Text: "group"}, {Op: api.PString, Text: "%1"}}, op(99), op(99), op(99))
	p := spare[:5]
	node := api.Node{Op: api.PString, Text: "x%0"}
	before := slices.Clone(spare)
	given := append(slices.Clone(spare), node)
	answers := func() []api.Pattern {
		part, _ := tree.Part(p, 3)
		whole, _ := tree.Part(p, 4)
		under, _ := tree.Join(node, p)
		both, _ := tree.Join(op(api.PSeq), p, p)
		put, _ := tree.Put(p, 3, p)
		all, _ := tree.Put(p, 4, p)
		return []api.Pattern{part, whole, under, both, put, all}
	}
	first, second := answers(), answers()
	for i := range first {
		if len(first[i]) == 0 || !slices.Equal(first[i], second[i]) {
			t.Fatalf("the answer %d: %v, %v", i, first[i], second[i])
		}
		kept := slices.Clone(second[i])
		overwrite(first[i])
		if !slices.Equal(second[i], kept) || !slices.Equal(spare, before) {
			t.Errorf("the answer %d is not alone", i)
		}
		for _, n := range second[i] {
			for _, m := range given {
				if n.Text != "" && m.Text != "" && unsafe.StringData(n.Text) == unsafe.StringData(m.Text) {
					t.Errorf("the answer %d keeps the text %s", i, n.Text)
				}
			}
		}
	}
	names, _ := tree.Names(p)
	if len(names) != 1 || unsafe.StringData(names[0]) == unsafe.StringData(p[1].Text) {
		t.Error("Names keeps a text:", names)
	}
	ends, _ := tree.Parts(p, 2)
	others, _ := tree.Parts(p, 2)
	for i := range ends[:cap(ends)] {
		ends[:cap(ends)][i] = -1
	}
	if !slices.Equal(others, []int{0, 1}) {
		t.Error("Parts:", others)
	}
}

func overwrite(p api.Pattern) {
	p = p[:cap(p)]
	for i := range p {
		p[i] = api.Node{Op: -1, N: -1, Text: "spoilt"}
	}
}

// R4: the list of parts that is handed in, and the room behind it, stay as they are.
func TestJoinLeavesItsPartsAlone(t *testing.T) {
	room := []api.Pattern{{a}, {b}, {call("behind")}, {call("it")}}
	for count := range 3 {
		kind := []int{api.PText, api.PNot, api.PSeq}[count]
		if p, e := tree.Join(nodeOf(kind), room[:count]...); len(p) != count+1 || e != api.OK {
			t.Fatal(p, e)
		}
		if !slices.Equal(room[0], api.Pattern{a}) || !slices.Equal(room[1], api.Pattern{b}) || !slices.Equal(room[2], api.Pattern{call("behind")}) || !slices.Equal(room[3], api.Pattern{call("it")}) {
			t.Fatal(room)
		}
	}
}
