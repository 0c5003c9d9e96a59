package tree_test

import (
	"math"
	"strings"
	"testing"

	"harrow/api"
	"harrow/tree"
)

// T1
func TestArity(t *testing.T) {
	for kind, l := range table {
		if got := tree.Arity(kind); got != l.parts {
			t.Errorf("Arity(%d): %d, want %d", kind, got, l.parts)
		}
	}
	if len(table) != 23 {
		t.Error("the model's table has", len(table))
	}
	for _, kind := range noKinds() {
		if got := tree.Arity(kind); got != -1 {
			t.Errorf("Arity(%d): %d", kind, got)
		}
	}
}

func noKinds() []int {
	return []int{0, 24, 25, -1, -7, 1 << 8, 1<<8 + api.PText, 1<<32 + api.PSeq, -1<<32 + api.PAny, math.MinInt, math.MaxInt}
}

func sameCheck(t *testing.T, p api.Pattern) {
	t.Helper()
	at, e := wantedCheck(p)
	if gotAt, got := tree.Check(p); gotAt != at || got != e {
		t.Fatalf("Check(%v): %d, %v, want %d, %v", p, gotAt, got, at, e)
	}
}

// T2: the chapter's examples, and what it names besides.
func TestCheck(t *testing.T) {
	for _, x := range []struct {
		p  api.Pattern
		at int
		e  api.Errno
	}{
		{api.Pattern{a, b, op(api.PSeq), a, op(api.PChoice)}, 0, api.OK},
		{api.Pattern{op(api.PStar)}, 0, api.ErrParts},
		{api.Pattern{a, b}, 2, api.ErrParts},
		{nil, 0, api.ErrParts},
		{api.Pattern{}, 0, api.ErrParts},
		{api.Pattern{text("")}, 0, api.ErrField},
		{api.Pattern{op(24)}, 0, api.ErrOp},
		{api.Pattern{{}}, 0, api.ErrOp},
		{api.Pattern{a, {Op: api.PString, Text: "%x"}}, 1, api.ErrField},
		{api.Pattern{a, {Op: api.PString, Text: "%%%0"}}, 0, api.OK},
		{api.Pattern{a, op(api.PString)}, 0, api.OK},
		{api.Pattern{a, op(api.PSeq)}, 1, api.ErrParts},
		{api.Pattern{op(api.PChoice)}, 0, api.ErrParts},
		{api.Pattern{a, b, op(api.PSeq), op(api.PSeq)}, 3, api.ErrParts},
		{api.Pattern{a, b, a, op(api.PSeq)}, 4, api.ErrParts},
		{api.Pattern{a, b, a, op(api.PSeq), op(api.PSeq)}, 0, api.OK},
		{api.Pattern{op(api.PPlace), op(api.PStar), op(api.PEmpty)}, 3, api.ErrParts},
		// Which is told first: of the nodes the first one that is wrong, of a node the kind, then its fields, then its parts.
		{api.Pattern{op(api.PStar), op(24)}, 0, api.ErrParts},
		{api.Pattern{a, text(""), op(24)}, 1, api.ErrField},
		{api.Pattern{a, b, op(24), text("")}, 2, api.ErrOp},
		{api.Pattern{{Op: 24, Text: "x", N: -1, Set: api.Set{1}}}, 0, api.ErrOp},
		{api.Pattern{{Op: api.PStar, N: 1}}, 0, api.ErrField},
		{api.Pattern{{Op: api.PTimes, N: 51}}, 0, api.ErrField},
		{api.Pattern{{Op: api.PTimes, N: 50}}, 0, api.ErrParts},
		{api.Pattern{a, {Op: api.PSeq, Text: "x"}}, 1, api.ErrField},
	} {
		if at, e := tree.Check(x.p); at != x.at || e != x.e {
			t.Errorf("Check(%v): %d, %v, want %d, %v", x.p, at, e, x.at, x.e)
		}
		sameCheck(t, x.p)
	}
	for _, kind := range noKinds() {
		if at, e := tree.Check(api.Pattern{a, op(kind)}); at != 1 || e != api.ErrOp {
			t.Errorf("the kind %d: %d, %v", kind, at, e)
		}
	}
}

func edgeTexts() []string {
	return []string{
		"", "a", "b1", "_", "__9", "Z", "aZ09_z", "0", "9a", "1x", "a-b", "a b", " a", "a ", "a\n", "\n", "a\x00", "\xff", "\xce\xb1", "a\xce\xb1", "@", "[", "`", "{", "/", ":", "a@", "a[", "a`", "a{", "a/", "a:",
		"%", "a%", "%%", "%%%", "%%%%", "%0", "%9", "%12", "%x", "%/", "%:", "%\x00", "%\xff", "%%0", "%%%0", "%%%0%", "%0%%x", "%0%", "x%1y%%z%2", "%1%", "% 1", "%-1", "\n%1\xff",
		strings.Repeat("a", 31), strings.Repeat("a", 32), strings.Repeat("a", 33), "_" + strings.Repeat("9", 31), "_" + strings.Repeat("9", 32), strings.Repeat("a", 31) + "-", strings.Repeat("\xff", 32),
		strings.Repeat("a", 254), strings.Repeat("a", 255), strings.Repeat("a", 256), strings.Repeat("\x00", 255), strings.Repeat("\xce", 256), strings.Repeat("a", 1<<16+1),
		strings.Repeat("%", 254), strings.Repeat("%", 255), strings.Repeat("%", 256), strings.Repeat("a", 253) + "%1", strings.Repeat("a", 254) + "%", strings.Repeat("a", 254) + "%1", strings.Repeat("a", 254) + "\n",
	}
}

func edgeNumbers() []int {
	return []int{0, 1, 2, 49, 50, 51, 255, -1, -50, 1 << 32, 1<<32 + 50, -1 << 32, math.MinInt, math.MaxInt}
}

func edgeSets() []api.Set {
	return []api.Set{{}, {1}, {0, 1 << 63}, {0, 0, 1}, {0, 0, 0, 1 << 63}, {math.MaxUint64, math.MaxUint64, math.MaxUint64, math.MaxUint64}}
}

// T2: each kind with all that may stand in its fields, and what may not.
func TestFields(t *testing.T) {
	right := map[int]int{}
	for kind := range table {
		for _, s := range edgeTexts() {
			for _, n := range edgeNumbers() {
				for _, set := range edgeSets() {
					p := laid(partsFor(kind), api.Node{Op: kind, N: n, Text: s, Set: set})
					sameCheck(t, p)
					if _, e := tree.Check(p); e == api.OK {
						right[kind]++
					}
				}
			}
		}
	}
	// The model let some through, of each kind: just those that its own form has.
	for kind, want := range map[int]int{api.PEmpty: 1, api.PSeq: 1, api.PNot: 1, api.PSet: len(edgeSets()), api.PTimes: 5, api.PPick: 5, api.PCall: 9, api.PGroup: 10} {
		if right[kind] != want {
			t.Errorf("of the kind %d %d are right, want %d", kind, right[kind], want)
		}
	}
}

// T2: what the tests above lean on, without the model.
func TestFieldsByHand(t *testing.T) {
	for s, is := range map[string]bool{
		"": true, "x": true, "%": false, "a%": false, "%%": true, "%%%": false, "%%%0": true, "%%0%": false, "%0": true, "%9": true, "%a": false, "%10": true, "%/": false, "%:": false, "\xff%%\n": true,
		strings.Repeat("x", 255): true, strings.Repeat("x", 256): false, strings.Repeat("%", 254): true, strings.Repeat("%", 256): false,
	} {
		want, at := api.OK, 0
		if !is {
			want, at = api.ErrField, 1
		}
		if got, e := tree.Check(api.Pattern{a, {Op: api.PString, Text: s}}); got != at || e != want {
			t.Errorf("the template %q: %d, %v", s, got, e)
		}
	}
	for s, is := range map[string]bool{
		"": false, "x": true, "X": true, "_": true, "x0": true, "0": false, "0x": false, "x-": false, "x.": false, "\xce\xb1": false,
		strings.Repeat("x", 32): true, strings.Repeat("x", 33): false,
	} {
		want := api.OK
		if !is {
			want = api.ErrField
		}
		if at, e := tree.Check(api.Pattern{call(s)}); at != 0 || e != want {
			t.Errorf("the call %q: %d, %v", s, at, e)
		}
		if s == "" {
			want = api.OK
		}
		if _, e := tree.Check(api.Pattern{a, {Op: api.PGroup, Text: s}}); e != want {
			t.Errorf("the group %q: %v", s, e)
		}
	}
	for _, kind := range []int{api.PTimes, api.PLeast, api.PMost, api.PPick} {
		for n, want := range map[int]api.Errno{-1: api.ErrField, 0: api.OK, 50: api.OK, 51: api.ErrField} {
			if _, e := tree.Check(api.Pattern{a, {Op: kind, N: n}}); e != want {
				t.Errorf("%d of the kind %d: %v", n, kind, e)
			}
		}
	}
}

// T2: all short lists of nodes, right and wrong.
func TestCheckOfShortLists(t *testing.T) {
	nodes := []api.Node{a, op(api.PAny), op(api.PSeq), op(api.PChoice), op(api.PStar), {Op: api.PMost, N: 51}, op(0)}
	for _, p := range listsOf(nodes, 6) {
		sameCheck(t, p)
	}
}

// T2
func TestCheckOfScrambled(t *testing.T) {
	for _, p := range scrambled(600) {
		sameCheck(t, p)
		for at := range p {
			sameCheck(t, p[:at])
			sameCheck(t, p[at:])
		}
	}
}

// T2: MaxNodes, whatever else is wrong.
func TestManyNodes(t *testing.T) {
	full := append(row(api.PSeq, 1024), op(api.PStar))
	if len(full) != api.MaxNodes {
		t.Fatal(len(full))
	}
	if at, e := tree.Check(full); at != 0 || e != api.OK {
		t.Errorf("at the limit: %d, %v", at, e)
	}
	if at, e := tree.Check(append(full, op(api.PStar))); at != 0 || e != api.ErrLong {
		t.Errorf("above the limit: %d, %v", at, e)
	}
	if at, e := tree.Check(make(api.Pattern, api.MaxNodes)); at != 0 || e != api.ErrOp {
		t.Errorf("of wrong nodes at the limit: %d, %v", at, e)
	}
	if at, e := tree.Check(make(api.Pattern, api.MaxNodes+1)); at != 0 || e != api.ErrLong {
		t.Errorf("of wrong nodes above the limit: %d, %v", at, e)
	}
	if at, e := tree.Check(make(api.Pattern, 1<<20)); at != 0 || e != api.ErrLong {
		t.Errorf("of very many: %d, %v", at, e)
	}
	loose := append(row(api.PChoice, 1024), a)
	if at, e := tree.Check(loose); at != api.MaxNodes || e != api.ErrParts {
		t.Errorf("of two patterns at the limit: %d, %v", at, e)
	}
	if at, e := tree.Check(append(loose[:2047:2047], op(24))); at != 2047 || e != api.ErrOp {
		t.Errorf("of a wrong last node at the limit: %d, %v", at, e)
	}
}

// T2: a node is not the first one to be too high, if it is wrong otherwise; one that is too high comes ahead of what is wrong behind it.
func TestDeep(t *testing.T) {
	for kind, l := range table {
		if l.parts != 1 {
			continue
		}
		if at, e := tree.Check(tower(kind, 60)); at != 0 || e != api.OK {
			t.Errorf("60 of the kind %d: %d, %v", kind, at, e)
		}
		if at, e := tree.Check(tower(kind, 61)); at != 60 || e != api.ErrDeep {
			t.Errorf("61 of the kind %d: %d, %v", kind, at, e)
		}
	}
	high := tower(api.PSub, 61)
	for _, x := range []struct {
		behind []api.Node
		at     int
		e      api.Errno
	}{
		{[]api.Node{op(24)}, 60, api.ErrDeep},
		{[]api.Node{a}, 60, api.ErrDeep},
		{[]api.Node{op(api.PSub), op(api.PSub)}, 60, api.ErrDeep},
	} {
		if at, e := tree.Check(laid([]api.Pattern{high}, x.behind...)); at != x.at || e != x.e {
			t.Errorf("behind what is too deep %v: %d, %v", x.behind, at, e)
		}
	}
	full := tower(api.PSub, 60)
	for _, x := range []struct {
		behind []api.Node
		at     int
		e      api.Errno
	}{
		{[]api.Node{{Op: api.PSub, N: 1}}, 60, api.ErrField},
		{[]api.Node{op(24)}, 60, api.ErrOp},
		{[]api.Node{op(api.PSeq)}, 60, api.ErrParts},
		{[]api.Node{a, op(api.PSeq)}, 61, api.ErrDeep},
		{[]api.Node{a}, 61, api.ErrParts},
	} {
		if at, e := tree.Check(laid([]api.Pattern{full}, x.behind...)); at != x.at || e != x.e {
			t.Errorf("behind 60 %v: %d, %v", x.behind, at, e)
		}
	}
	if at, e := tree.Check(laid([]api.Pattern{{a}, full}, op(api.PChoice))); at != 61 || e != api.ErrDeep {
		t.Errorf("a second part that is high: %d, %v", at, e)
	}
}

// T2, T3: rows from the left are not deep, rows from the right are.
func TestRows(t *testing.T) {
	for _, kind := range []int{api.PSeq, api.PChoice} {
		for _, count := range []int{2, 3, 59, 60, 61, 1000, 1024} {
			if h, e := tree.Height(row(kind, count)); h != 2 || e != api.OK {
				t.Errorf("%d of the kind %d: %d, %v", count, kind, h, e)
			}
		}
		if h, e := tree.Height(rowFromTheRight(kind, 60)); h != 60 || e != api.OK {
			t.Errorf("60 of the kind %d from the right: %d, %v", kind, h, e)
		}
		if at, e := tree.Check(rowFromTheRight(kind, 61)); at != 120 || e != api.ErrDeep {
			t.Errorf("61 of the kind %d from the right: %d, %v", kind, at, e)
		}
		if h, e := tree.Height(rowFromTheRight(kind, 61)); h != 0 || e != api.ErrDeep {
			t.Errorf("the height of 61 of the kind %d from the right: %d, %v", kind, h, e)
		}
	}
}

// T2, T3: where the two kinds of rows stand by turns, each turn counts.
func TestMixedRows(t *testing.T) {
	p := api.Pattern{a}
	for turn := range 59 {
		p = append(p, b, op(api.PSeq+turn%2))
		if h, e := tree.Height(p); h != turn+2 || e != api.OK {
			t.Fatalf("%d turns: %d, %v", turn+1, h, e)
		}
		long := append(p[:len(p):len(p)], laid(nil, b, op(api.PSeq+turn%2), b, op(api.PSeq+turn%2))...)
		if h, e := tree.Height(long); h != turn+2 || e != api.OK {
			t.Fatalf("%d turns, the last one long: %d, %v", turn+1, h, e)
		}
	}
	if at, e := tree.Check(append(p, b, op(api.PChoice))); at != len(p)+1 || e != api.ErrDeep {
		t.Errorf("60 turns: %d, %v", at, e)
	}
	// A row is as high as the highest that stands in it; what stands ahead in it counts for one less.
	for _, x := range []struct {
		p    api.Pattern
		want int
	}{
		{laid([]api.Pattern{tower(api.PNot, 9)}, b, op(api.PSeq)), 10},
		{laid([]api.Pattern{tower(api.PNot, 9)}, b, op(api.PSeq), a, op(api.PSeq), a, op(api.PSeq)), 10},
		{laid([]api.Pattern{{a}, tower(api.PNot, 9)}, op(api.PSeq), a, op(api.PSeq)), 10},
		{laid([]api.Pattern{row(api.PSeq, 4), tower(api.PNot, 9)}, op(api.PSeq)), 10},
		{laid([]api.Pattern{row(api.PSeq, 4), row(api.PSeq, 5)}, op(api.PSeq)), 3},
		{laid([]api.Pattern{row(api.PSeq, 4), row(api.PSeq, 5)}, op(api.PChoice)), 3},
		{laid([]api.Pattern{row(api.PChoice, 4), row(api.PSeq, 5)}, op(api.PSeq)), 3},
		{laid([]api.Pattern{row(api.PSeq, 4), {a}}, op(api.PChoice)), 3},
		{laid([]api.Pattern{row(api.PSeq, 4), {a}}, op(api.PSeq)), 2},
		{api.Pattern{a, op(api.PStar), op(api.PStar)}, 3},
	} {
		if h, e := tree.Height(x.p); h != x.want || e != api.OK {
			t.Errorf("Height(%v): %d, %v, want %d", x.p, h, e, x.want)
		}
	}
}
