package notation_test

import (
	"slices"
	"strconv"
	"strings"
	"testing"

	"harrow/api"
	"harrow/notation"
	"harrow/runes"
	"harrow/token"
	"harrow/tree"
)

// The chapter, told otherwise than the package tells it: what may stand where is asked of its lines by Earley's sets, how deep a token is of the stretches over which the signs ahead are open, and the pattern is found by cutting lists of tokens into pieces.

// The notation's lines. HEAD is a NAME with '<-' behind it, NAME one without.
const lines = `
text: rules | exp
rules: rule | rules rule
rule: HEAD <- exp
exp: seq | exp / seq
seq: pre | seq pre
pre: & pre | ! pre | suf
suf: prim | suf ? | suf * | suf + | suf TIMES | suf LEAST | suf MOST | suf -> TEXT | suf -> NUMBER
prim: TEXT | CLASS | PERCENT | RUNES | . | %e | %f
prim: ( exp ) | { } | { exp } | GROUP exp :} | {| exp |} | {~ exp ~} | NAME
`

var words = map[int]string{
	1: "NAME", 2: "TEXT", 3: "CLASS", 4: "NUMBER", 5: "RUNES", 6: "<-", 7: "/", 8: "&", 9: "!", 10: "?", 11: "*", 12: "+", 13: "TIMES", 14: "LEAST", 15: "MOST",
	16: "(", 17: ")", 18: ".", 19: "{", 20: "}", 21: "GROUP", 22: ":}", 23: "{|", 24: "|}", 25: "{~", 26: "~}", 27: "->", 28: "PERCENT", 29: "%e", 30: "%f",
}

// A way is one of those that a line tells, with its words and names as numbers.
type way struct {
	name int
	of   []int
}

var ways, numbers = waysOf(lines)

func waysOf(lines string) ([]way, map[string]int) {
	numbers := map[string]int{}
	numberOf := func(word string) int {
		if numbers[word] == 0 {
			numbers[word] = len(numbers) + 1
		}
		return numbers[word]
	}
	var ways []way
	for _, l := range strings.Split(strings.TrimSpace(lines), "\n") {
		name, rest, _ := strings.Cut(l, ": ")
		for _, told := range strings.Split(rest, " | ") {
			w := way{name: numberOf(name)}
			for _, word := range strings.Fields(told) {
				w.of = append(w.of, numberOf(word))
			}
			ways = append(ways, w)
		}
	}
	return ways, numbers
}

func wordsOf(l []api.Token) []string {
	var out []string
	for i, x := range l {
		word := words[x.Kind]
		if word == "NAME" && i+1 < len(l) && words[l[i+1].Kind] == "<-" {
			word = "HEAD"
		}
		out = append(out, word)
	}
	return out
}

// An item says that a way was begun at the word from, and is done up to done.
type item struct {
	way, done, from int
}

// wants is 0 of what is done.
func (x item) wants() int {
	if of := ways[x.way].of; x.done < len(of) {
		return of[x.done]
	}
	return 0
}

// closed adds to a set all that follows from it; ahead are the sets of the places before.
func closed(set []item, ahead [][]item, at int) []item {
	add := func(x item) {
		if !slices.Contains(set, x) {
			set = append(set, x)
		}
	}
	for i := 0; i < len(set); i++ {
		x := set[i]
		want := x.wants()
		for w := range ways {
			if want != 0 && ways[w].name == want {
				add(item{w, 0, at})
			}
		}
		// Where it began what wants it: it is never empty, so that this is a place ahead.
		for j := 0; want == 0 && j < len(ahead[x.from]); j++ {
			if y := ahead[x.from][j]; y.wants() == ways[x.way].name {
				add(item{y.way, y.done + 1, y.from})
			}
		}
	}
	return set
}

var beginning = func() []item {
	var set []item
	for w := range ways {
		if ways[w].name == numbers["text"] {
			set = append(set, item{w, 0, 0})
		}
	}
	return closed(set, nil, 0)
}()

// stuck is the number of the first word behind which no text could go on, len(l) if it is the end that may not be there, and -1 if the words are a text.
func stuck(l []string) int {
	sets := [][]item{beginning}
	for i, word := range l {
		var next []item
		for _, x := range sets[i] {
			if x.wants() != 0 && x.wants() == numbers[word] {
				next = append(next, item{x.way, x.done + 1, x.from})
			}
		}
		if len(next) == 0 {
			return i
		}
		sets = append(sets, closed(next, sets, i+1))
	}
	for _, x := range sets[len(l)] {
		if ways[x.way].name == numbers["text"] && x.wants() == 0 {
			return -1
		}
	}
	return len(l)
}

const (
	openers  = " ( { GROUP {| {~ "
	closers  = " ) } :} |} ~} "
	prefixes = " & ! "
	suffixes = " ? * + TIMES LEAST MOST "
)

func among(word, list string) bool {
	return strings.Contains(list, " "+word+" ")
}

// behindClosing is the place behind the sign that closes the one at i, whatever kind it is of; one behind the end and more, if there is none.
func behindClosing(l []string, i int) int {
	depth := 0
	for ; i < len(l); i++ {
		if among(l[i], openers) {
			depth++
		}
		if among(l[i], closers) {
			depth--
		}
		if depth == 0 {
			return i + 1
		}
	}
	return len(l) + 1
}

// behindPre is the place behind the pre that begins at i.
func behindPre(l []string, i int) int {
	for i < len(l) && among(l[i], prefixes) {
		i++
	}
	if i >= len(l) {
		return len(l) + 1
	}
	i = behindClosing(l, i)
	for i < len(l) {
		switch {
		case among(l[i], suffixes):
			i++
		case l[i] == "->":
			i += 2
		default:
			return i
		}
	}
	return i
}

// openAround is how many signs are open around the word at i, up to which all may stand where it stands.
func openAround(l []string, i int) int {
	count := 0
	for j, word := range l[:i] {
		if among(word, openers) && behindClosing(l, j) > i || among(word, prefixes) && behindPre(l, j) > i {
			count++
		}
	}
	return count
}

func tooDeep(l []string, i int) bool {
	if i == len(l) || !among(l[i], openers) && !among(l[i], prefixes) {
		return false
	}
	if l[i] == "{" && i+1 < len(l) && l[i+1] == "}" {
		return false
	}
	return openAround(l, i) >= 240
}

func isTemplate(s string) bool {
	return !strings.Contains(strings.NewReplacer("%%", "", "%0", "", "%1", "", "%2", "", "%3", "", "%4", "", "%5", "", "%6", "", "%7", "", "%8", "", "%9", "").Replace(s), "%")
}

// firstWrong is the fault of the first token at which something is wrong.
func firstWrong(tokens []api.Token, end int) api.Fault {
	l := wordsOf(tokens)
	bad := stuck(l)
	for i, x := range append(slices.Clone(tokens), api.Token{At: end}) {
		behindMaps := i > 0 && l[i-1] == "->"
		switch {
		case i == bad:
			return api.Fault{At: x.At, Code: api.ErrSyntax}
		case tooDeep(l, i):
			return api.Fault{At: x.At, Code: api.ErrDeep}
		case behindMaps && x.Kind == api.TText && !isTemplate(x.Text):
			return api.Fault{At: x.At, Code: api.ErrTemplate}
		case behindMaps && x.Kind == api.TNumber && x.N > 50:
			return api.Fault{At: x.At, Code: api.ErrRange}
		}
	}
	return api.Fault{}
}

// A list of tokens and their words, of something that is known to be right.
type stretch struct {
	tokens []api.Token
	words  []string
}

func (s stretch) cut(from, to int) stretch {
	return stretch{s.tokens[from:to], s.words[from:to]}
}

func laid(first, second api.Pattern, op int) api.Pattern {
	if first == nil {
		return second
	}
	return slices.Concat(first, second, api.Pattern{{Op: op}})
}

func (s stretch) exp() api.Pattern {
	var p api.Pattern
	from := 0
	for i := 0; i < len(s.words); {
		if i = behindPre(s.words, i); i == len(s.words) || s.words[i] == "/" {
			p = laid(p, s.cut(from, i).seq(), api.PChoice)
			i++
			from = i
		}
	}
	return p
}

func (s stretch) seq() api.Pattern {
	var p api.Pattern
	for i := 0; i < len(s.words); {
		end := behindPre(s.words, i)
		p = laid(p, s.cut(i, end).pre(), api.PSeq)
		i = end
	}
	return p
}

func (s stretch) pre() api.Pattern {
	switch rest := s.cut(1, len(s.words)); s.words[0] {
	case "&":
		return append(rest.pre(), api.Node{Op: api.PAnd})
	case "!":
		return append(rest.pre(), api.Node{Op: api.PNot})
	}
	return s.suf()
}

func (s stretch) suf() api.Pattern {
	last := len(s.words) - 1
	if last >= 2 && s.words[last-1] == "->" {
		return append(s.cut(0, last-1).suf(), map[string]api.Node{
			"TEXT":   {Op: api.PString, Text: s.tokens[last].Text},
			"NUMBER": {Op: api.PPick, N: s.tokens[last].N},
		}[s.words[last]])
	}
	if among(s.words[last], suffixes) {
		op := map[string]int{"?": 11, "*": 9, "+": 10, "TIMES": 14, "LEAST": 15, "MOST": 16}[s.words[last]]
		return append(s.cut(0, last).suf(), api.Node{Op: op, N: s.tokens[last].N})
	}
	return s.prim()
}

func (s stretch) prim() api.Pattern {
	switch len(s.words) {
	case 1:
		return s.leaf()
	case 2:
		return api.Pattern{{Op: api.PPlace}}
	}
	p := s.cut(1, len(s.words)-1).exp()
	if op := map[string]int{"{": 18, "GROUP": 19, "{|": 20, "{~": 21}[s.words[0]]; op != 0 {
		p = append(p, api.Node{Op: op, Text: s.tokens[0].Text})
	}
	return p
}

func (s stretch) leaf() api.Pattern {
	x := s.tokens[0]
	if s.words[0] == "RUNES" {
		p, _ := runes.Pattern(x.N, int(x.Set[0]))
		return p
	}
	if s.words[0] == "TEXT" && x.Text == "" {
		return api.Pattern{{Op: api.PEmpty}}
	}
	return api.Pattern{map[string]api.Node{
		"NAME":    {Op: api.PCall, Text: x.Text},
		"TEXT":    {Op: api.PText, Text: x.Text},
		"CLASS":   {Op: api.PSet, Set: x.Set},
		"PERCENT": {Op: api.PSet, Set: x.Set},
		".":       {Op: api.PAny},
		"%e":      {Op: api.PEmpty},
		"%f":      {Op: api.PFail},
	}[s.words[0]]}
}

// A rule, and where its first token stands.
type found struct {
	at   int
	rule api.Rule
}

// The rules of tokens that are a text.
func rulesOf(tokens []api.Token) []found {
	s := stretch{tokens, wordsOf(tokens)}
	if s.words[0] != "HEAD" {
		return []found{{tokens[0].At, api.Rule{Body: s.exp()}}}
	}
	var l []found
	for i := 0; i < len(tokens); {
		end := i + 1
		for end < len(tokens) && s.words[end] != "HEAD" {
			end++
		}
		l = append(l, found{tokens[i].At, api.Rule{Name: tokens[i].Text, Body: s.cut(i+2, end).exp()}})
		i = end
	}
	return l
}

func wantedParse(text string) (api.Grammar, api.Fault) {
	if len(text) > 65536 {
		return api.Grammar{}, api.Fault{At: 0, Code: api.ErrLong}
	}
	tokens, f := token.Lex(text)
	if f == (api.Fault{}) {
		f = firstWrong(tokens, len(text))
	}
	if f != (api.Fault{}) {
		return api.Grammar{}, f
	}
	l := rulesOf(tokens)
	if len(l) > 200 {
		return api.Grammar{}, api.Fault{At: l[200].at, Code: api.ErrLong}
	}
	var g api.Grammar
	nodes := 0
	for _, x := range l {
		nodes += len(x.rule.Body)
		_, e := tree.Check(x.rule.Body)
		if e == api.OK && nodes > 2048 {
			e = api.ErrLong
		}
		if e != api.OK {
			return api.Grammar{}, api.Fault{At: x.at, Code: e}
		}
		g.Rules = append(g.Rules, x.rule)
	}
	return g, api.Fault{}
}

// wantedPattern is told what Parse is to tell.
func wantedPattern(text string, g api.Grammar, f api.Fault) (api.Pattern, api.Fault) {
	if tokens, f := token.Lex(text); f == (api.Fault{}) && slices.Index(wordsOf(tokens), "HEAD") == 0 {
		return nil, api.Fault{At: tokens[0].At, Code: api.ErrSyntax}
	}
	if f != (api.Fault{}) {
		return nil, f
	}
	return g.Rules[0].Body, f
}

func sameRule(a, b api.Rule) bool {
	return a.Name == b.Name && slices.Equal(a.Body, b.Body)
}

func sameGrammar(a, b api.Grammar) bool {
	return slices.EqualFunc(a.Rules, b.Rules, sameRule)
}

// sameAsModel holds both calls against the chapter, as it is told here.
func sameAsModel(t *testing.T, text string) {
	t.Helper()
	g, f := notation.Parse(text)
	wg, wf := wantedParse(text)
	if f != wf || !sameGrammar(g, wg) {
		t.Errorf("Parse(%s): %v, %v, want %v, %v", short(text), g, f, wg, wf)
	}
	p, f := notation.Pattern(text)
	if wp, wf := wantedPattern(text, wg, wf); f != wf || !slices.Equal(p, wp) {
		t.Errorf("Pattern(%s): %v, %v, want %v, %v", short(text), p, f, wp, wf)
	}
}

func short(text string) string {
	if len(text) > 300 {
		return strconv.Quote(text[:150]) + "..(" + strconv.Itoa(len(text)) + " bytes).." + strconv.Quote(text[len(text)-50:])
	}
	return strconv.Quote(text)
}

// Numbers without any order in them, the same ones each time.
type scramble uint64

func (x *scramble) below(n int) int {
	*x ^= *x << 13
	*x ^= *x >> 7
	*x ^= *x << 17
	return int(uint64(*x) >> 1 % uint64(n))
}

func newScramble() *scramble {
	x := scramble(88172645463325252)
	return &x
}

func (x *scramble) oneOf(l ...string) string {
	return l[x.below(len(l))]
}

// A text of the notation, made along its lines; the smaller size is, the sooner it ends.
func (x *scramble) text(size int) string {
	if x.below(2) == 0 {
		return x.exp(size)
	}
	s := ""
	for range 1 + x.below(3) {
		s += x.gap() + x.oneOf("a", "b", "s", "long_name_9") + x.gap() + "<-" + x.exp(size)
	}
	return s
}

// A gap that keeps what stands on both sides of it apart.
func (x *scramble) gap() string {
	return x.oneOf(" ", " ", " ", "\n", "\t", "\r\n", "  ", " -- note\n", "--'(\n")
}

func (x *scramble) exp(size int) string {
	s := x.seq(size)
	for range x.below(3) {
		s += x.gap() + "/" + x.seq(size-1)
	}
	return s
}

func (x *scramble) seq(size int) string {
	s := x.pre(size)
	for range x.below(3) {
		s += x.pre(size - 1)
	}
	return s
}

func (x *scramble) pre(size int) string {
	s := x.gap()
	for x.below(5) == 0 {
		s += x.oneOf("&", "!") + x.gap()
	}
	s += x.prim(size)
	for x.below(3) == 0 {
		s += x.oneOf("?", "*", "+", "^3", "^+0", "^-50", " -> 'x%1%%'", "->\"\"", " -> 50", "->0", "\n?")
	}
	return s
}

func (x *scramble) prim(size int) string {
	if size > 0 && x.below(3) > 0 {
		open := x.oneOf("(", "{", "{:", "{:k:", "{|", "{~")
		closing := map[string]string{"(": ")", "{": "}", "{:": ":}", "{:k:": ":}", "{|": "|}", "{~": "~}"}[open]
		return open + x.exp(size-1) + x.gap() + closing
	}
	return x.oneOf("'a'", `"\x00b"`, "''", "[^a-z]", "[]", "%d", "%W", "%u{41}", "%u{3b1-3c9}", "%u{d800-dfff}", ".", "%e", "%f", "{}", "{ }", "a", "b", "nowhere")
}
