package show_test

import (
	"slices"
	"strconv"
	"strings"
	"testing"

	"harrow/api"
	"harrow/charset"
	"harrow/show"
)

func shown(t *testing.T, want string, p ...api.Node) {
	t.Helper()
	if s, e := show.Pattern(p); s != want || e != api.OK {
		t.Errorf("Pattern(%v): %s, %v, want %s", brief(p), short(s), e, short(want))
	}
}

func refused(t *testing.T, want api.Errno, p ...api.Node) {
	t.Helper()
	if s, e := show.Pattern(p); s != "" || e != want {
		t.Errorf("Pattern(%v): %s, %v, want %v", brief(p), short(s), e, want)
	}
	if s, e := show.Tree(p); s != "" || e != want {
		t.Errorf("Tree(%v): %s, %v, want %v", brief(p), short(s), e, want)
	}
}

// 7.1: each row of the table of texts.
func TestTextOfEachKind(t *testing.T) {
	a, b := lit("a"), lit("b")
	shown(t, "%e", op(api.PEmpty))
	shown(t, "%f", op(api.PFail))
	shown(t, ".", op(api.PAny))
	shown(t, "{}", op(api.PPlace))
	shown(t, "'a'", a)
	shown(t, "[ab]", set(charset.Of("ab")))
	shown(t, "s", call("s"))
	shown(t, "{'a'}", a, op(api.PSub))
	shown(t, "{: 'a' :}", a, group(""))
	shown(t, "{:k: 'a' :}", a, group("k"))
	shown(t, "{| 'a' |}", a, op(api.PList))
	shown(t, "{~ 'a' ~}", a, op(api.PSubst))
	shown(t, "'a'*", a, op(api.PStar))
	shown(t, "'a'+", a, op(api.PPlus))
	shown(t, "'a'?", a, op(api.POpt))
	shown(t, "'a'^2", a, number(api.PTimes, 2))
	shown(t, "'a'^+2", a, number(api.PLeast, 2))
	shown(t, "'a'^-2", a, number(api.PMost, 2))
	shown(t, "'a' -> 'x%0'", a, template("x%0"))
	shown(t, "'a' -> ''", a, template(""))
	shown(t, "'a' -> 2", a, number(api.PPick, 2))
	shown(t, "&'a'", a, op(api.PAnd))
	shown(t, "!'a'", a, op(api.PNot))
	shown(t, "'a' 'b'", a, b, op(api.PSeq))
	shown(t, "'a' / 'b'", a, b, op(api.PChoice))
}

// 7.1: the chapter's examples.
func TestPatternExamples(t *testing.T) {
	a, b, c := lit("a"), lit("b"), lit("c")
	seq, star, not := op(api.PSeq), op(api.PStar), op(api.PNot)
	shown(t, "('a' 'b')*", a, b, seq, star)
	shown(t, "!'a'*", a, star, not)
	shown(t, "(!'a')*", a, not, star)
	shown(t, "'a' ('b' 'c')", a, b, c, seq, seq)
	shown(t, "'a' 'b' 'c'", a, b, seq, c, seq)
	shown(t, "{: s :}", call("s"), group(""))
	shown(t, "{:k: s :}", call("s"), group("k"))
	shown(t, ".^2 -> '%0'", op(api.PAny), number(api.PTimes, 2), template("%0"))
}

// Of each kind with parts its text around them, and behind it, of each place, which kinds must stand in parentheses there.
var frames = map[int][]string{
	api.PSub: {"{@}", ""}, api.PGroup: {"{:k: @ :}", ""}, api.PList: {"{| @ |}", ""}, api.PSubst: {"{~ @ ~}", ""},
	api.PStar: {"@*", "choice seq and not"}, api.PPlus: {"@+", "choice seq and not"}, api.POpt: {"@?", "choice seq and not"},
	api.PTimes: {"@^7", "choice seq and not"}, api.PLeast: {"@^+7", "choice seq and not"}, api.PMost: {"@^-7", "choice seq and not"},
	api.PString: {"@ -> '<%1>'", "choice seq and not"}, api.PPick: {"@ -> 7", "choice seq and not"},
	api.PAnd: {"&@", "choice seq"}, api.PNot: {"!@", "choice seq"},
	api.PSeq:    {"@ @", "choice", "choice seq"},
	api.PChoice: {"@ / @", "", "choice"},
}

// The texts of a small pattern of each kind.
var smallTexts = map[int]string{
	api.PEmpty: "%e", api.PFail: "%f", api.PAny: ".", api.PText: `'it\'s'`, api.PSet: `[\n\xff]`, api.PCall: "rule_1", api.PSeq: "a b", api.PChoice: "a / b",
	api.PStar: "a*", api.PPlus: "a+", api.POpt: "a?", api.PAnd: "&a", api.PNot: "!a", api.PTimes: "a^7", api.PLeast: "a^+7", api.PMost: "a^-7",
	api.PPlace: "{}", api.PSub: "{a}", api.PGroup: "{:k: a :}", api.PList: "{| a |}", api.PSubst: "{~ a ~}", api.PString: "a -> '<%1>'", api.PPick: "a -> 7",
}

// 7.1: each kind as the part of each other one, at each of its places, with parentheses just where it must have them.
func TestEachKindInEachPlace(t *testing.T) {
	for outer, f := range frames {
		for place := range len(f) - 1 {
			for inner, text := range smallTexts {
				shown(t, text, smallOf(inner)...)
				word, _, _ := strings.Cut(table[inner].tree, " ")
				if slices.Contains(strings.Fields(f[place+1]), word) {
					text = "(" + text + ")"
				}
				parts, texts := []api.Pattern{{call("z")}, {call("z")}}[:len(f)-1], []string{"z", "z"}
				parts[place], texts[place] = smallOf(inner), text
				want := f[0]
				for i := range parts {
					want = strings.Replace(want, "@", texts[i], 1)
				}
				shown(t, want, above(nodeOf(outer), parts...)...)
			}
		}
	}
}

// 7.1: three kinds, one within the other, in all ways.
func TestThreeKindsInEachOther(t *testing.T) {
	for kind := api.PEmpty; kind <= api.PPick; kind++ {
		for _, middle := range aboveEach(smallOf(kind)) {
			for _, p := range aboveEach(middle) {
				sameAsModel(t, p)
			}
		}
	}
}

// 7.1: rows from the left have no parentheses, those from the right have all of them.
func TestRows(t *testing.T) {
	x := call("x")
	for n := range 60 {
		shown(t, "x"+times(" x", n), row(api.PSeq, n, x)...)
		shown(t, "x"+times(" / x", n), row(api.PChoice, n, x)...)
		if n > 0 {
			shown(t, "x "+times("(x ", n-1)+"x"+times(")", n-1), rightRow(api.PSeq, n, x)...)
			shown(t, "x / "+times("(x / ", n-1)+"x"+times(")", n-1), rightRow(api.PChoice, n, x)...)
		}
	}
	shown(t, "a b / c d / e", call("a"), call("b"), op(api.PSeq), call("c"), call("d"), op(api.PSeq), op(api.PChoice), call("e"), op(api.PChoice))
	shown(t, "(a / b) (c / d) e", call("a"), call("b"), op(api.PChoice), call("c"), call("d"), op(api.PChoice), op(api.PSeq), call("e"), op(api.PSeq))
	shown(t, "!a &b !(c d) / !!e", call("a"), op(api.PNot), call("b"), op(api.PAnd), op(api.PSeq), call("c"), call("d"), op(api.PSeq), op(api.PNot), op(api.PSeq), call("e"), op(api.PNot), op(api.PNot), op(api.PChoice))
}

// 7.1: all counts and numbers.
func TestNumbers(t *testing.T) {
	for n := range api.MaxTimes + 1 {
		s := strconv.Itoa(n)
		shown(t, ".^"+s, op(api.PAny), number(api.PTimes, n))
		shown(t, ".^+"+s, op(api.PAny), number(api.PLeast, n))
		shown(t, ".^-"+s, op(api.PAny), number(api.PMost, n))
		shown(t, ". -> "+s, op(api.PAny), number(api.PPick, n))
		shown(t, ". -> "+s+"^"+s+"^+"+s+"+ -> "+s, op(api.PAny), number(api.PPick, n), number(api.PTimes, n), number(api.PLeast, n), op(api.PPlus), number(api.PPick, n))
	}
}

// 7.1: literals are told as chapter 5 tells them, of any bytes.
func TestLiterals(t *testing.T) {
	for b := range 256 {
		one := string([]byte{byte(b)})
		want := tokenText(api.Token{Kind: api.TText, Text: one})
		shown(t, want, lit(one))
		if b != '%' {
			shown(t, ". -> "+want, op(api.PAny), template(one))
		}
	}
	shown(t, `'it\'s "\\"\n\r\t\x00\x1f ~\x7f\x80\xff%'`, lit("it's \"\\\"\n\r\t\x00\x1f ~\x7f\x80\xff%"))
	shown(t, `. -> '%0%%\n%9\xce\xb1\''`, op(api.PAny), template("%0%%\n%9\xce\xb1'"))
	shown(t, `'--' '(' ')'`, lit("--"), lit("("), op(api.PSeq), lit(")"), op(api.PSeq))
	shown(t, `'\\n'`, lit(`\n`))
}

// 7.1: classes are told as chapter 5 tells them, of any set.
func TestClasses(t *testing.T) {
	for b := range 256 {
		one, _ := charset.Range(b, b)
		for _, s := range []api.Set{one, charset.Not(one)} {
			shown(t, tokenText(api.Token{Kind: api.TClass, Set: s}), set(s))
		}
	}
	shown(t, "[]", set(api.Set{}))
	shown(t, "[^]", set(charset.Not(api.Set{})))
	shown(t, `[\n\-0-9A-\^a-z\xff]*`, set(charset.Of("\n-0123456789ABCDEFGHIJKLMNOPQRSTUVWXYZ[\\]^abcdefghijklmnopqrstuvwxyz\xff")), op(api.PStar))
	shown(t, "[ab]", set(charset.Of("ab")))
	shown(t, "[a-c]", set(charset.Of("abc")))
}

// 7.1: names, of calls and of groups.
func TestNames(t *testing.T) {
	for _, name := range []string{"a", "_", "Z9", "e", "f", "u", "choice", times("n", 32)} {
		shown(t, name, call(name))
		shown(t, "{:"+name+": "+name+" :}", call(name), group(name))
		shown(t, "{: "+name+" :}", call(name), group(""))
	}
}

// 7.1: patterns at the limits of chapter 4 are told.
func TestLargestPatterns(t *testing.T) {
	x := call("x")
	for _, kind := range kindsWith(1) {
		p := tower(59, nodeOf(kind), x)
		shown(t, textOf(p), p...)
		refused(t, api.ErrDeep, tower(60, nodeOf(kind), x)...)
	}
	shown(t, "x"+times("*", 59), tower(59, op(api.PStar), x)...)
	shown(t, times("!", 59)+"x", tower(59, op(api.PNot), x)...)
	shown(t, times("{", 58)+"{}"+times("}", 58), tower(58, op(api.PSub), op(api.PPlace))...)
	shown(t, times("{| ", 59)+"x"+times(" |}", 59), tower(59, op(api.PList), x)...)
	mixed := list(x)
	for range 29 {
		mixed = append(mixed, op(api.PNot), op(api.PStar))
	}
	shown(t, times("(!", 29)+"x"+times(")*", 29), mixed...)

	for join, sign := range map[int]string{api.PSeq: " ", api.PChoice: " / "} {
		most := row(join, 1023, x)
		shown(t, "x"+times(sign+"x", 1023), most...)
		shown(t, "(x"+times(sign+"x", 1023)+")*", append(most, op(api.PStar))...)
		refused(t, api.ErrLong, append(row(join, 1023, x), op(api.PStar), op(api.PStar))...)
		shown(t, "x"+times(sign+"(x", 58)+sign+"x"+times(")", 58), rightRow(join, 59, x)...)
		refused(t, api.ErrDeep, rightRow(join, 60, x)...)
	}
	shown(t, "'"+times(`\xff`, 255)+"'", lit(times("\xff", 255)))
	shown(t, ". -> '"+times("%1", 127)+"x'", op(api.PAny), template(times("%1", 127)+"x"))
}

// A row of 64 literals and one more, whose text has so many bytes (from 65475 on to 65729).
func rowOfBytes(n int) api.Pattern {
	p := row(api.PSeq, 63, lit(times("\xff", 255)))
	last := n - len(textOf(p)) - len(" ''")
	return append(p, lit(times("x", last)), op(api.PSeq))
}

// 7.1: a text of MaxText bytes is told, one of more is not.
func TestLongestText(t *testing.T) {
	for n := api.MaxText - 3; n <= api.MaxText+60; n++ {
		p := rowOfBytes(n)
		s, e := show.Pattern(p)
		if n <= api.MaxText && (e != api.OK || len(s) != n || s != textOf(p)) || n > api.MaxText && (e != api.ErrLong || s != "") {
			t.Errorf("a text of %d bytes: %d, %v", n, len(s), e)
		}
	}
	// Signs and parentheses count as literals do.
	for _, n := range []api.Node{op(api.PStar), op(api.PSub), op(api.PNot), number(api.PMost, 50), template(""), group("k"), op(api.PList)} {
		for _, size := range []int{65525, 65526, 65527, 65530, 65531, 65532, 65533, 65534, 65535, 65536} {
			sameAsModel(t, above(n, rowOfBytes(size)))
		}
	}
	if s, e := show.Pattern(above(op(api.PStar), rowOfBytes(65533))); len(s) != 65536 || e != api.OK {
		t.Error(len(s), e)
	}
	tooLong(t, above(op(api.PStar), rowOfBytes(65534)))
	tooLong(t, row(api.PSeq, 1023, lit(times("\x00", 255))))
	tooLong(t, above(op(api.PStar), row(api.PChoice, 1023, lit(times("\x00", 255)))))
}

// A text that is too long, whatever its tree is.
func tooLong(t *testing.T, p api.Pattern) {
	t.Helper()
	if s, e := show.Pattern(p); s != "" || e != api.ErrLong {
		t.Errorf("Pattern(%v): %s, %v", brief(p), short(s), e)
	}
}

// 7.1: each thing that layer 4's Check refuses, and the first one of them.
func TestWrongPatterns(t *testing.T) {
	a := lit("a")
	refused(t, api.ErrParts)
	refused(t, api.ErrParts, op(api.PStar))
	refused(t, api.ErrParts, a, a)
	refused(t, api.ErrParts, a, op(api.PSeq))
	refused(t, api.ErrOp, op(0))
	refused(t, api.ErrOp, op(24))
	refused(t, api.ErrOp, op(-1))
	refused(t, api.ErrOp, a, op(1<<40))
	refused(t, api.ErrField, lit(""))
	refused(t, api.ErrField, lit(times("a", 256)))
	refused(t, api.ErrField, call(""))
	refused(t, api.ErrField, call("1a"))
	refused(t, api.ErrField, call("a b"))
	refused(t, api.ErrField, call(times("a", 33)))
	refused(t, api.ErrField, a, group("k:"))
	refused(t, api.ErrField, a, template("%"))
	refused(t, api.ErrField, a, template("%x"))
	refused(t, api.ErrField, a, number(api.PTimes, 51))
	refused(t, api.ErrField, a, number(api.PLeast, -1))
	refused(t, api.ErrField, a, number(api.PPick, 51))
	refused(t, api.ErrField, a, number(api.PStar, 1))
	refused(t, api.ErrField, api.Node{Op: api.PAny, Text: "x"})
	refused(t, api.ErrField, api.Node{Op: api.PAny, Set: api.Set{1}})
	refused(t, api.ErrDeep, tower(60, op(api.PStar), a)...)
	refused(t, api.ErrLong, row(api.PSeq, 1024, a)...)

	refused(t, api.ErrOp, op(0), lit(""), op(api.PStar))
	refused(t, api.ErrField, lit(""), op(0))
	refused(t, api.ErrParts, op(api.PStar), op(0))
	refused(t, api.ErrDeep, append(tower(60, op(api.PStar), a), op(0))...)
	refused(t, api.ErrField, append(list(lit("")), tower(60, op(api.PStar), a)...)...)
	refused(t, api.ErrLong, slices.Repeat(list(op(0)), 2049)...)
	// What is wrong with a pattern comes ahead of how long its text would be.
	refused(t, api.ErrParts, append(row(api.PSeq, 700, lit(times("\x00", 255))), a)...)
	refused(t, api.ErrOp, append(row(api.PSeq, 700, lit(times("\x00", 255))), op(24))...)
}
