package token_test

import (
	"math"
	"slices"
	"strings"
	"testing"
	"unsafe"

	"harrow/api"
	"harrow/charset"
	"harrow/token"
)

func checked(t *testing.T, l []api.Token, at int, e api.Errno) {
	t.Helper()
	if n, got := token.Check(l); n != at || got != e {
		t.Errorf("Check of %d tokens: %d, %v, want %d, %v", len(l), n, got, at, e)
	}
}

// 5.2: all kinds, with all that their fields may and may not be.
func TestCheckOfEachField(t *testing.T) {
	kinds := []int{math.MinInt, -1 << 32, -2, -1, 0, 31, 32, 33, 1<<32 + 1, 1<<32 + 18, math.MaxInt}
	for kind := 1; kind <= 30; kind++ {
		kinds = append(kinds, kind)
	}
	texts := []string{"", "a", "Z", "_", "9", "d", "D", "u", "e", "f", "q", "ab", "a9", "9a", "a b", "a-b", "a:", " a", "a\n", "%d", "dd", "\x00", "\xff", "\xce\xb1", "é",
		strings.Repeat("a", 31), strings.Repeat("a", 32), strings.Repeat("a", 33), strings.Repeat("9", 32), strings.Repeat("a", 255), strings.Repeat("a", 256), strings.Repeat("\xff", 255), strings.Repeat("\xff", 256), strings.Repeat("'", 1<<17)}
	sets := []api.Set{{}, {1}, {65}, {969}, {0x10ffff}, {0x110000}, {1 << 32}, {1<<32 + 65}, {1 << 63}, {math.MaxUint64}, {65, 1}, {65, 0, 1}, {65, 0, 0, 1}, {0, 1}, {0, 0, 1 << 63}, {0, 0, 0, 1}, {math.MaxUint64, math.MaxUint64, math.MaxUint64, math.MaxUint64}}
	for _, letter := range "dDueaf" {
		if set, e := charset.Class(byte(letter)); e == api.OK {
			sets = append(sets, set)
		}
	}
	for _, kind := range kinds {
		for _, text := range texts {
			for _, set := range sets {
				for _, n := range extremes() {
					x := api.Token{Kind: kind, N: n, Text: text, Set: set}
					at, e := token.Check([]api.Token{x})
					if at != 0 || e == api.OK != wantedRight(x) || e != api.OK && e != api.ErrShape {
						t.Fatalf("Check of kind %d, N %d, Text %s, Set %v: %d, %v", kind, n, short(text), set, at, e)
					}
				}
			}
		}
	}
}

// 5.2: each letter has its class, and no other one.
func TestCheckOfLetters(t *testing.T) {
	for b := range 256 {
		one := string([]byte{byte(b)})
		for c := range 256 {
			set, e := charset.Class(byte(c))
			if e != api.OK {
				continue
			}
			x := []api.Token{{Kind: api.TPercent, Text: one, Set: set}}
			if b == c {
				checked(t, x, 0, api.OK)
			} else {
				checked(t, x, 0, api.ErrShape)
			}
		}
		x := api.Token{Kind: api.TName, Text: one}
		y := api.Token{Kind: api.TName, Text: "a" + one}
		for _, n := range []api.Token{x, y} {
			if _, e := token.Check([]api.Token{n}); e == api.OK != wantedRight(n) {
				t.Errorf("Check of the name %q: %v", n.Text, e)
			}
		}
	}
}

// 5.2: places are not looked at.
func TestCheckOfPlaces(t *testing.T) {
	for _, x := range rightTokens() {
		checked(t, []api.Token{x}, 0, api.OK)
		for _, at := range extremes() {
			for _, end := range extremes() {
				x.At, x.End = at, end
				checked(t, []api.Token{x}, 0, api.OK)
			}
		}
	}
}

// 5.2: the first one that is not right, and lists at and above the limit.
func TestCheckOfLists(t *testing.T) {
	checked(t, nil, 0, api.OK)
	checked(t, []api.Token{}, 0, api.OK)
	dots := slices.Repeat([]api.Token{{Kind: api.TDot}}, api.MaxItems+1)
	checked(t, dots[:api.MaxItems], 0, api.OK)
	checked(t, dots, 0, api.ErrLong)
	for _, at := range []int{0, 1, 2, 100, api.MaxItems - 1} {
		l := slices.Clone(dots[:api.MaxItems])
		l[at].N = 1
		l[api.MaxItems-1].Kind = 0
		checked(t, l, at, api.ErrShape)
		checked(t, append(l, api.Token{Kind: api.TDot}), 0, api.ErrLong)
	}
	// What lies behind the length is not looked at.
	l := slices.Clone(dots[:10])
	l[5] = api.Token{}
	checked(t, l[:5], 0, api.OK)
	checked(t, []api.Token{{Kind: api.TDot}, {Kind: api.TDot, N: 1}}, 1, api.ErrShape)
}

func told(t *testing.T, l []api.Token, want string) {
	t.Helper()
	if s, e := token.Text(l); s != want || e != api.OK {
		t.Errorf("Text(%v): %s, %v, want %s", l, short(s), e, short(want))
	}
}

func untold(t *testing.T, l []api.Token, want api.Errno) {
	t.Helper()
	if s, e := token.Text(l); s != "" || e != want {
		t.Errorf("Text of %d tokens: %s, %v, want %v", len(l), short(s), e, want)
	}
}

// 5.3: each kind.
func TestTextOfEachKind(t *testing.T) {
	for text, x := range map[string]api.Token{
		"ab_9":          {Kind: api.TName, Text: "ab_9"},
		"''":            {Kind: api.TText},
		`'it\'s "so"'`:  {Kind: api.TText, Text: `it's "so"`},
		"[]":            {Kind: api.TClass},
		"[a-c]":         {Kind: api.TClass, Set: class(t, "[abc]")},
		"[^]":           {Kind: api.TClass, Set: class(t, "[^]")},
		"0":             {Kind: api.TNumber},
		"999999":        {Kind: api.TNumber, N: 999999},
		"%u{0-0}":       {Kind: api.TRunes},
		"%u{41-41}":     {Kind: api.TRunes, N: 65, Set: api.Set{65}},
		"%u{0-10ffff}":  {Kind: api.TRunes, Set: api.Set{0x10ffff}},
		"%u{3b1-3c9}":   {Kind: api.TRunes, N: 945, Set: api.Set{969}},
		"%u{abcd-bcde}": {Kind: api.TRunes, N: 0xabcd, Set: api.Set{0xbcde}},
		"<-":            {Kind: api.TArrow},
		"/":             {Kind: api.TSlash},
		"&":             {Kind: api.TAnd},
		"!":             {Kind: api.TNot},
		"?":             {Kind: api.TQuery},
		"*":             {Kind: api.TStar},
		"+":             {Kind: api.TPlus},
		"^0":            {Kind: api.TTimes},
		"^50":           {Kind: api.TTimes, N: 50},
		"^+0":           {Kind: api.TLeast},
		"^+12":          {Kind: api.TLeast, N: 12},
		"^-0":           {Kind: api.TMost},
		"^-3":           {Kind: api.TMost, N: 3},
		"(":             {Kind: api.TOpen},
		")":             {Kind: api.TClose},
		".":             {Kind: api.TDot},
		"{":             {Kind: api.TBrace},
		"}":             {Kind: api.TUnbrace},
		"{:":            {Kind: api.TGroup},
		"{:k:":          {Kind: api.TGroup, Text: "k"},
		":}":            {Kind: api.TUngroup},
		"{|":            {Kind: api.TList},
		"|}":            {Kind: api.TUnlist},
		"{~":            {Kind: api.TSubst},
		"~}":            {Kind: api.TUnsubst},
		"->":            {Kind: api.TMaps},
		"%u":            {Kind: api.TPercent, Text: "u", Set: class(t, "[A-Z]")},
		"%S":            {Kind: api.TPercent, Text: "S", Set: class(t, `[^ \x09-\x0d]`)},
		"%e":            {Kind: api.TEmpty},
		"%f":            {Kind: api.TFail},
	} {
		told(t, []api.Token{x}, text)
		told(t, []api.Token{x, x}, text+" "+text)
		x.At, x.End = -7, math.MaxInt
		told(t, []api.Token{{Kind: api.TDot}, x, {Kind: api.TDot}}, ". "+text+" .")
	}
	told(t, nil, "")
	told(t, []api.Token{}, "")
	told(t, []api.Token{{Kind: api.TPercent, Text: "u", Set: class(t, "[%u]")}, {Kind: api.TBrace}}, "%u {")
}

// 5.3: each byte of a literal.
func TestTextOfEachByte(t *testing.T) {
	for b := range 256 {
		one := string([]byte{byte(b)})
		told(t, []api.Token{{Kind: api.TText, Text: one}}, "'"+wantedByte(b)+"'")
		told(t, []api.Token{{Kind: api.TText, Text: "a" + one + "0"}}, "'a"+wantedByte(b)+"0'")
	}
}

// 5.3: the same as the chapter's words, of lists without any order in them.
func TestTextOfScrambledLists(t *testing.T) {
	x, all := newScramble(), rightTokens()
	for range 2000 {
		var l []api.Token
		for range x.below(20) {
			l = append(l, all[x.below(len(all))])
		}
		want, _ := wantedText(l)
		told(t, l, want)
	}
}

// 5.3: Check's errors, and which one is told first.
func TestTextOfWrongLists(t *testing.T) {
	for _, x := range []api.Token{{}, {Kind: -1}, {Kind: 31}, {Kind: api.TName}, {Kind: api.TDot, N: 1}, {Kind: api.TDot, Text: "."}, {Kind: api.TDot, Set: api.Set{1}}, {Kind: api.TMost, N: 51}, {Kind: api.TNumber, N: -1}, {Kind: api.TRunes, N: 1}} {
		untold(t, []api.Token{x}, api.ErrShape)
		untold(t, []api.Token{{Kind: api.TDot}, x}, api.ErrShape)
	}
	long := slices.Repeat([]api.Token{{Kind: api.TText, Text: strings.Repeat("\xff", 255)}}, 100)
	untold(t, long, api.ErrLong)
	untold(t, append(long, api.Token{}), api.ErrShape)
	untold(t, slices.Repeat([]api.Token{{}}, api.MaxItems+1), api.ErrLong)
}

// 5.3: at and above the limits.
func TestTextLimits(t *testing.T) {
	dots := slices.Repeat([]api.Token{{Kind: api.TDot}}, api.MaxItems+1)
	told(t, dots[:api.MaxItems], strings.Repeat(". ", api.MaxItems)[:2*api.MaxItems-1])
	untold(t, dots, api.ErrLong)
	// Names of 15 bytes and a blank: 4096 of them have one byte less than the greatest text.
	names := slices.Repeat([]api.Token{{Kind: api.TName, Text: "fifteen_letters"}}, api.MaxItems)
	told(t, names, strings.Repeat("fifteen_letters ", api.MaxItems)[:api.MaxText-1])
	for _, at := range []int{0, 2000, api.MaxItems - 1} {
		l := slices.Clone(names)
		l[at].Text = "sixteen_letters_"
		if s, e := token.Text(l); len(s) != api.MaxText || e != api.OK {
			t.Errorf("%d bytes, %v", len(s), e)
		}
		l[at].Text = "seventeen_letters"
		untold(t, l, api.ErrLong)
		l[at].Text = "sixteen_letters_"
		l[1000].Text = "sixteen_letters_"
		untold(t, l, api.ErrLong)
	}
	// The escapes count, not the bytes.
	ones := slices.Repeat([]api.Token{{Kind: api.TText, Text: strings.Repeat("\x01", 255)}}, 65)
	untold(t, ones, api.ErrLong)
	if s, e := token.Text(ones[:64]); len(s) != 64*1023-1 || e != api.OK {
		t.Errorf("%d bytes, %v", len(s), e)
	}
	untold(t, slices.Repeat(ones[:1], api.MaxItems), api.ErrLong)
}

// 5.2, 5.3, R4: what is handed in stays as it is, spare room too, and nothing of it is kept.
func TestTextLeavesTheListAlone(t *testing.T) {
	room := append(rightTokens(), api.Token{Kind: -5}, api.Token{Text: "spare"})
	l := room[: len(room)-2 : len(room)]
	before := slices.Clone(room)
	token.Check(l)
	s, e := token.Text(l)
	if e != api.OK || !slices.Equal(room, before) {
		t.Error("the list was changed", e)
	}
	for _, x := range l {
		if within(x.Text, s) {
			t.Errorf("%q lies in the answer", x.Text)
		}
	}
	name := strings.Repeat("name", 5)
	one, _ := token.Text([]api.Token{{Kind: api.TName, Text: name}})
	two, _ := token.Text([]api.Token{{Kind: api.TName, Text: name}})
	if one != name || unsafe.StringData(one) == unsafe.StringData(name) || unsafe.StringData(one) == unsafe.StringData(two) {
		t.Error("the answer is the argument's memory, or another answer's")
	}
}
