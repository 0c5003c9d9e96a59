package token_test

import (
	"slices"
	"strings"
	"testing"

	"harrow/api"
	"harrow/token"
)

// Texts that are read without a fault, of all sorts.
func readable() []string {
	texts := []string{"", " ", "-- c", `a <- 'x\n' / [a-z]+ -- note`, "{:k: a :}{: a:}", "%u{3b1-3c9}%u{41}^+2", "{:a:}", "<-->", "->--x", "{|{~{:{}:}|}~}", "%u {", "1a0b", "'a''b'", "[a][^]%d%e", "-- a\n\n--\n.-- end"}
	x := newScramble()
	pieces := []string{"a", "k9", " ", "\r\n", "--c\n", "'x'", `"\x00'"`, `'\''`, "[^a-z]", "[]", "%s", "%u", "%u{0-10ffff}", "%u{000041}", "<-", "->", "/", "^3", "^+0", "^-50", "{:k:", "{:", ":}", "{|", "|}", "{~", "~}", "{", "}", "(", ")", ".", "77", "0", "&", "!", "?", "*", "+", "%e", "%f"}
	for range 1500 {
		text := ""
		for range 1 + x.below(12) {
			text += pieces[x.below(len(pieces))]
		}
		if x.below(4) == 0 {
			text += "-- end"
		}
		texts = append(texts, text)
	}
	for _, text := range textsOf([]string{"a", "1", "<-", "->", "--", "\n", "^-2", "{:", ":}", "'q'", "%u", "{"}, 3) {
		texts = append(texts, text)
	}
	return slices.DeleteFunc(texts, func(text string) bool {
		_, f := wantedLex(text)
		return f != api.Fault{}
	})
}

func lex(t *testing.T, text string) []api.Token {
	t.Helper()
	l, f := token.Lex(text)
	if f != (api.Fault{}) {
		t.Fatalf("Lex(%s): %v", short(text), f)
	}
	return l
}

// 5.4: tokens come back from their text.
func TestTokensThereAndBack(t *testing.T) {
	all := rightTokens()
	for _, a := range all {
		for _, b := range all {
			back(t, []api.Token{a, b})
		}
	}
	back(t, all)
	back(t, nil)
	x := newScramble()
	for range 1000 {
		var l []api.Token
		for range x.below(40) {
			l = append(l, all[x.below(len(all))])
		}
		back(t, l)
	}
}

func back(t *testing.T, l []api.Token) {
	t.Helper()
	s, e := token.Text(l)
	if e != api.OK {
		t.Fatalf("Text(%v): %v", l, e)
	}
	if got := lex(t, s); !slices.Equal(bare(got), bare(l)) {
		t.Errorf("Lex(%s): %v, want %v", short(s), got, l)
	}
}

// 5.4: what is read of a text is right, and is read again from its text.
func TestTextsThereAndBack(t *testing.T) {
	for _, text := range readable() {
		l := lex(t, text)
		if at, e := token.Check(l); at != 0 || e != api.OK {
			t.Errorf("Check of Lex(%q): %d, %v", text, at, e)
		}
		back(t, l)
	}
}

// 5.5: tokens stand one behind the other, with blanks and comments alone between them, and each one's bytes alone are it.
func TestTokensStandAlone(t *testing.T) {
	for _, text := range readable() {
		place := 0
		for _, x := range lex(t, text) {
			if x.At < place || x.End <= x.At || x.End > len(text) {
				t.Fatalf("%q: %v behind %d", text, x, place)
			}
			if gap := text[place:x.At]; gapForm.FindString(gap) != gap {
				t.Errorf("%q: %q stands between", text, gap)
			}
			alone := x
			alone.At, alone.End = 0, x.End-x.At
			if got := lex(t, text[x.At:x.End]); !slices.Equal(got, []api.Token{alone}) {
				t.Errorf("%q alone: %v, want %v", text[x.At:x.End], got, alone)
			}
			place = x.End
		}
		if gap := text[place:]; gapForm.FindString(gap) != gap {
			t.Errorf("%q: %q stands behind", text, gap)
		}
	}
}

// 5.5: more blanks and comments change nothing but places.
func TestMoreBetweenTokens(t *testing.T) {
	gaps := []string{" ", "\t", "\n", "\r", "\r\n \t", "--\n", "-- 'a\n", "----\n--$\n ", " --\x00\xff\n"}
	for _, text := range readable() {
		l := lex(t, text)
		for _, gap := range gaps {
			for i := range len(l) + 1 {
				if i < len(l) {
					widened(t, text, l, i, l[i].At, gap)
				}
				if i > 0 {
					widened(t, text, l, i, l[i-1].End, gap)
				}
			}
		}
		all := ""
		place := 0
		for _, x := range l {
			all += text[place:x.At] + gaps[len(all)%len(gaps)] + text[x.At:x.End] + gaps[len(all)%7]
			place = x.End
		}
		if got := lex(t, all+text[place:]+"\n-- end"); !slices.Equal(bare(got), bare(l)) {
			t.Errorf("%q: %v, want %v", all, got, l)
		}
	}
}

// The gap is put in at a place; the tokens from the i-th one on stand behind it.
func widened(t *testing.T, text string, l []api.Token, i, place int, gap string) {
	t.Helper()
	want := slices.Clone(l)
	for j := i; j < len(want); j++ {
		want[j].At += len(gap)
		want[j].End += len(gap)
	}
	wide := text[:place] + gap + text[place:]
	if got := lex(t, wide); !slices.Equal(got, want) {
		t.Errorf("Lex(%q): %v, want %v", wide, got, want)
	}
}

// P1: whatever is handed in, the calls end.
func TestCallsEnd(t *testing.T) {
	x := newScramble()
	const telling = "'\"\\x[]%u{}-^+:|~09afz< >/\n"
	for range 3000 {
		b := make([]byte, x.below(60))
		for i := range b {
			b[i] = byte(x.below(256))
			if x.below(3) > 0 {
				b[i] = telling[x.below(len(telling))]
			}
		}
		sameLex(t, string(b))
	}
	for _, n := range extremes() {
		for _, kind := range extremes() {
			l := []api.Token{{Kind: kind, N: n, At: n, End: kind, Text: strings.Repeat("x", 3), Set: api.Set{uint64(n)}}}
			token.Check(l)
			token.Text(l)
		}
	}
}
