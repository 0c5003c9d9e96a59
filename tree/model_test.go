package tree_test

import (
	"math"
	"regexp"
	"strings"

	"harrow/api"
)

// The chapter's table, line by line, so that what the package says is held against something that it did not make.
type line struct {
	parts int
	text  string // what Text must be: none, literal, name, group or template
	n     string // what N must be: none or times
}

var table = map[int]line{
	api.PEmpty: {0, "none", "none"}, api.PFail: {0, "none", "none"}, api.PAny: {0, "none", "none"}, api.PPlace: {0, "none", "none"},
	api.PText: {0, "literal", "none"},
	api.PSet:  {0, "none", "none"},
	api.PCall: {0, "name", "none"},
	api.PSeq:  {2, "none", "none"}, api.PChoice: {2, "none", "none"},
	api.PStar: {1, "none", "none"}, api.PPlus: {1, "none", "none"}, api.POpt: {1, "none", "none"}, api.PAnd: {1, "none", "none"},
	api.PNot: {1, "none", "none"}, api.PSub: {1, "none", "none"}, api.PList: {1, "none", "none"}, api.PSubst: {1, "none", "none"},
	api.PTimes: {1, "none", "times"}, api.PLeast: {1, "none", "times"}, api.PMost: {1, "none", "times"},
	api.PGroup:  {1, "group", "none"},
	api.PString: {1, "template", "none"},
	api.PPick:   {1, "none", "times"},
}

var forms = map[string]*regexp.Regexp{
	"none":     regexp.MustCompile(`\A\z`),
	"literal":  regexp.MustCompile(`(?s)\A.+\z`),
	"name":     regexp.MustCompile(`\A[A-Za-z_][A-Za-z_0-9]{0,31}\z`),
	"group":    regexp.MustCompile(`\A([A-Za-z_][A-Za-z_0-9]{0,31})?\z`),
	"template": regexp.MustCompile(`(?s)\A([^%]|%[0-9%])*\z`),
}

func fieldsAreRight(n api.Node) bool {
	l := table[n.Op]
	number := n.N == 0
	if l.n == "times" {
		number = 0 <= n.N && n.N <= 50
	}
	return number && len(n.Text) <= 255 && forms[l.text].MatchString(n.Text) && (n.Set == api.Set{} || n.Op == api.PSet)
}

func wrongAlone(n api.Node) api.Errno {
	if _, is := table[n.Op]; !is {
		return 40
	}
	if !fieldsAreRight(n) {
		return 41
	}
	return 0
}

// Where the part that ends with a node begins: gone back from there, each node gives one pattern and wants its parts.
func beginOf(p api.Pattern, at int) int {
	wanted := 1
	for ; ; at-- {
		wanted += table[p[at].Op].parts - 1
		if wanted == 0 {
			return at
		}
	}
}

func endsOf(p api.Pattern, at int) []int {
	switch table[p[at].Op].parts {
	case 1:
		return []int{at - 1}
	case 2:
		return []int{beginOf(p, at-1) - 1, at - 1}
	}
	return nil
}

func heightOf(p api.Pattern, at int) int {
	ends := endsOf(p, at)
	switch len(ends) {
	case 0:
		return 1
	case 1:
		return 1 + heightOf(p, ends[0])
	}
	first, second := heightOf(p, ends[0]), heightOf(p, ends[1])
	if p[ends[0]].Op == p[at].Op {
		first--
	}
	return 1 + max(first, second)
}

// The nodes ahead of at are right: how many patterns end among them that belong to no other.
func freeAhead(p api.Pattern, at int) int {
	free := 0
	for _, n := range p[:at] {
		free += 1 - table[n.Op].parts
	}
	return free
}

func wantedCheck(p api.Pattern) (int, api.Errno) {
	if len(p) > 2048 {
		return 0, 2
	}
	for at, n := range p {
		if e := wrongAlone(n); e != 0 {
			return at, e
		}
		if freeAhead(p, at) < table[n.Op].parts {
			return at, 42
		}
		if heightOf(p, at) > 60 {
			return at, 4
		}
	}
	if freeAhead(p, len(p)) != 1 {
		return len(p), 42
	}
	return 0, 0
}

var (
	a = text("a")
	b = text("b")
)

func text(s string) api.Node { return api.Node{Op: api.PText, Text: s} }
func call(s string) api.Node { return api.Node{Op: api.PCall, Text: s} }
func op(k int) api.Node      { return api.Node{Op: k} }

// A node of each kind that is right by itself, with something in each field that the kind has.
func nodeOf(kind int) api.Node {
	n := op(kind)
	switch table[kind].text {
	case "literal":
		n.Text = "ab"
	case "name", "group":
		n.Text = "x_1"
	case "template":
		n.Text = "<%1>"
	}
	if table[kind].n == "times" {
		n.N = 7
	}
	if kind == api.PSet {
		n.Set = api.Set{1, 2, 3, 1 << 63}
	}
	return n
}

// The parts that a kind needs, as many as there must be, one behind the other.
func partsFor(kind int) []api.Pattern {
	return []api.Pattern{{a}, {b}}[:table[kind].parts]
}

func laid(parts []api.Pattern, n ...api.Node) api.Pattern {
	var p api.Pattern
	for _, x := range parts {
		p = append(p, x...)
	}
	return append(p, n...)
}

// A row of count texts, put together from the left, or from the right.
func row(kind, count int) api.Pattern {
	p := api.Pattern{a}
	for range count - 1 {
		p = append(p, b, op(kind))
	}
	return p
}

func rowFromTheRight(kind, count int) api.Pattern {
	var p api.Pattern
	for range count {
		p = append(p, a)
	}
	for range count - 1 {
		p = append(p, op(kind))
	}
	return p
}

// A text under so many nodes of a kind that the whole has that height.
func tower(kind, height int) api.Pattern {
	p := api.Pattern{a}
	for range height - 1 {
		p = append(p, nodeOf(kind))
	}
	return p
}

// All lists of at most n of the nodes.
func listsOf(nodes []api.Node, n int) []api.Pattern {
	all := []api.Pattern{nil}
	last := all
	for range n {
		var longer []api.Pattern
		for _, p := range last {
			for _, x := range nodes {
				longer = append(longer, append(p[:len(p):len(p)], x))
			}
		}
		all = append(all, longer...)
		last = longer
	}
	return all
}

// A source of numbers that tells the same ones each time.
type dice uint64

func (d *dice) below(n int) int {
	*d ^= *d << 13
	*d ^= *d >> 7
	*d ^= *d << 17
	return int(uint64(*d) >> 11 % uint64(n))
}

// A pattern of all kinds, of about so many nodes at most, at most depth high.
func (d *dice) pattern(nodes, depth int) api.Pattern {
	leaves := []int{api.PEmpty, api.PFail, api.PAny, api.PText, api.PSet, api.PCall, api.PPlace}
	if nodes < 2 || depth < 2 {
		return api.Pattern{d.node(leaves[d.below(len(leaves))])}
	}
	kind := 1 + d.below(23)
	if d.below(2) == 0 {
		kind = api.PSeq + d.below(2)
	}
	n := d.node(kind)
	switch table[kind].parts {
	case 0:
		return api.Pattern{n}
	case 1:
		return append(d.pattern(nodes-1, depth-1), n)
	}
	first := d.below(nodes)
	return append(append(d.pattern(first, depth-1), d.pattern(nodes-1-first, depth-1)...), n)
}

func (d *dice) node(kind int) api.Node {
	n := nodeOf(kind)
	switch table[kind].text {
	case "literal":
		n.Text = strings.Repeat("z", 1+d.below(3))
	case "name", "group":
		n.Text = string([]byte{byte('a' + d.below(5))})
	case "template":
		n.Text = strings.Repeat("%%", d.below(3)) + strings.Repeat("%3", d.below(2))
	}
	if table[kind].n == "times" {
		n.N = d.below(51)
	}
	return n
}

// Patterns of all kinds and sizes; what their parts are is for the model to say.
func scrambled(count int) []api.Pattern {
	d := dice(88172645463325252)
	var l []api.Pattern
	for i := range count {
		l = append(l, d.pattern(1+i%90, 2+i%12))
	}
	return l
}

// Numbers that are none of a pattern's nodes', among them such as become one if their high bits are lost.
func outside(p api.Pattern) []int {
	return []int{-1, -2, -len(p) - 1, len(p), len(p) + 1, 1 << 32, -1 << 32, math.MinInt, math.MaxInt}
}
