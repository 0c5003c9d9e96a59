package notation_test

import (
	"strings"
	"testing"

	"harrow/api"
	"harrow/notation"
)

const (
	starts = " a 'x' '' '%' [a] %u{41} & ! ( . { {: {:k: {| {~ %d %e %f "
	goesOn = starts + "? * + ^2 ^+2 ^-2 -> / "
)

// N1: where each token may stand, and where it may not, is told at its place.
func TestEachTokenInEachPlace(t *testing.T) {
	for ahead, may := range map[string]string{
		"":               starts,
		"a <-":           starts,
		"a <- 'y' b <-":  starts,
		"'y' /":          starts,
		"'y' 'y' / !":    starts,
		"&":              starts,
		"! &":            starts,
		"(":              starts,
		"'y' (":          starts,
		"{":              starts + "} ",
		"{ {":            starts + "} ",
		"{:":             starts,
		"{:k:":           starts,
		"{|":             starts,
		"{~":             starts,
		"'y' ->":         " 'x' '' '%' 2 51 ",
		"! { 'y' ->":     " 'x' '' '%' 2 51 ",
		"a 'y'":          goesOn,
		"[y]":            goesOn,
		"%u{41-42}":      goesOn,
		"y .":            goesOn,
		"{ }":            goesOn,
		"{ 'y' }":        goesOn,
		"( 'y' )":        goesOn,
		"'y' ?":          goesOn,
		"'y' ^3 *":       goesOn,
		"'y' -> 'z'":     goesOn,
		"'y' -> 3":       goesOn,
		"! 'y'":          goesOn,
		"'y' / %e":       goesOn,
		"a <- 'y'":       goesOn,
		"( 'y'":          goesOn + ") ",
		"( ( 'y' )":      goesOn + ") ",
		"{ 'y'":          goesOn + "} ",
		"{ { }":          goesOn + "} ",
		"{: 'y'":         goesOn + ":} ",
		"{:k: {~ 'y' ~}": goesOn + ":} ",
		"{| 'y' *":       goesOn + "|} ",
		"{~ 'y' -> 2":    goesOn + "~} ",
		"{~ {| ( 'y'":    goesOn + ") ",
	} {
		for _, x := range allTokens() {
			may := strings.Contains(may, " "+x+" ")
			_, f := notation.Parse(ahead + " " + x)
			if at := len(ahead) + 1; may == (f == api.Fault{At: at, Code: api.ErrSyntax}) {
				t.Errorf("%q behind %q: %v", x, ahead, f)
			}
		}
	}
}

// N1: the text's end, where it may not be, is told at the text's length.
func TestEndsTooSoon(t *testing.T) {
	for _, text := range []string{
		"", " ", "\n\t\r ", "--", "-- note", "-- note\n", " -- one\n -- two\n ", "\n--",
		"a <-", "a <- ", "a <- 'b' c <-", "a <- -- note", "'a' /", "'a' / ", "&", "!", "!&!", "'a' !", "'a' ->", "'a' -> ", "'a'* -> -- 'b'",
		"(", "('a'", "('a' ", "(('a')", "{", "{ ", "{'a'", "{{}", "{:", "{:k:", "{:k: 'a'", "{: a", "{|", "{|'a'", "{| 'a' -- |}", "{~", "{~'a'", "{~{|'a'|}",
		"a <- (", "a <- ('b'", "a <- 'b' /", "a <- 'b' c <- {",
	} {
		refused(t, text, len(text), api.ErrSyntax)
	}
}

// N1: a sign closes none but its own.
func TestClosedOtherwise(t *testing.T) {
	opening := []string{"(", "{", "{:", "{:k:", "{|", "{~"}
	closing := []string{")", "}", ":}", ":}", "|}", "~}"}
	for i, open := range opening {
		for j, c := range closing {
			text := open + " 'a' " + c
			if c != closing[i] {
				refused(t, text, len(open)+5, api.ErrSyntax)
			} else if _, f := notation.Pattern(text); f != (api.Fault{}) {
				t.Errorf("Pattern(%q): %v", text, f)
			}
			if j > 0 && open+c != "{}" {
				refused(t, open+" "+c, len(open)+1, api.ErrSyntax)
			}
		}
		refused(t, "'a' "+closing[i], 4, api.ErrSyntax)
		refused(t, "a <- 'b' "+closing[i], 9, api.ErrSyntax)
	}
	refused(t, "()", 1, api.ErrSyntax)
	refused(t, "{:a:}", 4, api.ErrSyntax)
	refused(t, "{::}", 2, api.ErrSyntax)
	refused(t, "{||}", 2, api.ErrSyntax)
	refused(t, "{~~}", 2, api.ErrSyntax)
	refused(t, "({)}", 2, api.ErrSyntax)
	refused(t, "{}}", 2, api.ErrSyntax)
	refused(t, "{'a' / }", 7, api.ErrSyntax)
}

// N1: a NAME with '<-' behind it begins a rule, if the text has rules, and stands nowhere else.
func TestNamesOfRules(t *testing.T) {
	refused(t, "a <- b <- c", 5, api.ErrSyntax)
	refused(t, "a <- 'b' / c <- 'd'", 11, api.ErrSyntax)
	refused(t, "a <- !c <- 'd'", 6, api.ErrSyntax)
	refused(t, "a <- 'b' &c <- 'd'", 10, api.ErrSyntax)
	refused(t, "a <- ('b' c <- 'd')", 10, api.ErrSyntax)
	refused(t, "a <- (c <- 'd')", 6, api.ErrSyntax)
	refused(t, "a <- {c <- 'd'}", 6, api.ErrSyntax)
	refused(t, "a <- {'b' c <- 'd'}", 10, api.ErrSyntax)
	refused(t, "a <- {:k: 'b' c <- 'd' :}", 14, api.ErrSyntax)
	refused(t, "a <- 'b' -> c <- 'd'", 12, api.ErrSyntax)
	refused(t, "a <- <- b", 5, api.ErrSyntax)
	refused(t, "a <- 'b' <- c", 9, api.ErrSyntax)
	refused(t, "a <- b* <- c", 8, api.ErrSyntax)
	refused(t, "a <- 'b' c <- 'd' <- 'e'", 18, api.ErrSyntax)

	refused(t, "'a' b <- 'c'", 4, api.ErrSyntax)
	refused(t, "a b <- 'c'", 2, api.ErrSyntax)
	refused(t, "'a' / b <- 'c'", 6, api.ErrSyntax)
	refused(t, "!b <- 'c'", 1, api.ErrSyntax)
	refused(t, "(b <- 'c')", 1, api.ErrSyntax)
	refused(t, "(a) <- 'c'", 4, api.ErrSyntax)
	refused(t, "{b <- 'c'}", 1, api.ErrSyntax)
	refused(t, "{:a: b <- 'c' :}", 5, api.ErrSyntax)
	refused(t, "a* <- 'c'", 3, api.ErrSyntax)
	refused(t, "<- 'c'", 0, api.ErrSyntax)
	refused(t, "'a' <- 'c'", 4, api.ErrSyntax)
	refused(t, "a / b <-", 4, api.ErrSyntax)
	refused(t, "a b <-", 2, api.ErrSyntax)
}

// N1: templates that are none, at the place of the literal.
func TestTemplates(t *testing.T) {
	for _, s := range []string{"%", "x%", "%x", "%%%", "% 1", "%%%a", "%1%", "a%b%1", "%%1%", "%-", "%\\n", strings.Repeat("%", 255)} {
		refused(t, ". -> '"+s+"'", 5, api.ErrTemplate)
		refused(t, ". ->\""+s+"\"", 4, api.ErrTemplate)
		refused(t, "a <- {. -> '%%' -> -- note\n'"+s+"'", 27, api.ErrTemplate)
	}
	read(t, "'%'", lit("%"))
	read(t, "'x' '%q'", lit("x"), lit("%q"), op(api.PSeq))
	read(t, "'x' -> '%1' '%q'", lit("x"), template("%1"), lit("%q"), op(api.PSeq))
}

// N1: numbers behind '->', at the limit and above, at the place of the number.
func TestNumbers(t *testing.T) {
	read(t, ". -> 50", op(api.PAny), number(api.PPick, 50))
	refused(t, ". -> 51", 5, api.ErrRange)
	refused(t, ". ->51", 4, api.ErrRange)
	refused(t, ". -> 999999", 5, api.ErrRange)
	refused(t, ". -> 1000000", 5, api.ErrRange)
	refused(t, ". -> 050", 5, api.ErrToken)
	refused(t, "a <- . b <- . -> 2 -> 100 -> 101", 22, api.ErrRange)
	refused(t, "51", 0, api.ErrSyntax)
	refused(t, ". 51", 2, api.ErrSyntax)
	refused(t, ". -> -1", 5, api.ErrToken)
}

// N1: what layer 5 refuses comes first, wherever it stands, with its place.
func TestLayerFiveComesFirst(t *testing.T) {
	for text, want := range map[string]api.Fault{
		"$":                                    {At: 0, Code: api.ErrToken},
		"'ab":                                  {At: 0, Code: api.ErrOpen},
		`'a\q'`:                                {At: 2, Code: api.ErrEscape},
		"'a\nb'":                               {At: 2, Code: api.ErrToken},
		"a^":                                   {At: 1, Code: api.ErrToken},
		"a^51":                                 {At: 1, Code: api.ErrRange},
		"007":                                  {At: 0, Code: api.ErrToken},
		"%q":                                   {At: 0, Code: api.ErrClass},
		"%u{z}":                                {At: 0, Code: api.ErrRune},
		"[a":                                   {At: 0, Code: api.ErrOpen},
		"[z-a]":                                {At: 1, Code: api.ErrRange},
		"[%q]":                                 {At: 1, Code: api.ErrClass},
		"9999999":                              {At: 0, Code: api.ErrRange},
		strings.Repeat("n", 33):                {At: 0, Code: api.ErrLong},
		"'" + strings.Repeat("n", 256) + "'":   {At: 0, Code: api.ErrLong},
		"{:" + strings.Repeat("n", 33) + ": .": {At: 2, Code: api.ErrLong},
	} {
		for _, ahead := range []string{"", "'a' ", ") ", "/ ", "'a' -> ", "'a' -> '%' ", "'a' -> 51 ", "a <- ", "a <- b <- ", "( ", strings.Repeat("(", 241) + " ", strings.Repeat("{", 60) + " ", many(201), ". " + strings.Repeat("*", 3000) + " "} {
			want := api.Fault{At: len(ahead) + want.At, Code: want.Code}
			refused(t, ahead+text, want.At, want.Code)
			if _, f := notation.Pattern(ahead + text); f != want {
				t.Errorf("Pattern(%s): %v, want %v", short(ahead+text), f, want)
			}
		}
	}
	refused(t, "$ )", 0, api.ErrToken)
	refused(t, "$ %q", 0, api.ErrToken)
	refused(t, "%q $", 0, api.ErrClass)
	refused(t, ") -- $", 0, api.ErrSyntax)
}

// So many rules a, of four bytes and a blank each.
func many(n int) string {
	return strings.Repeat("a<-. ", n)
}

// N1: of several things that are wrong, the first token's is told.
func TestFirstTokenComesFirst(t *testing.T) {
	deep := strings.Repeat("(", 240)
	refused(t, "'a' -> '%' )", 7, api.ErrTemplate)
	refused(t, ") 'a' -> '%'", 0, api.ErrSyntax)
	refused(t, "'a' -> 51 -> '%'", 7, api.ErrRange)
	refused(t, "'a' -> '%' -> 51", 7, api.ErrTemplate)
	refused(t, "'a' -> 51 )", 7, api.ErrRange)
	refused(t, "/ 'a' -> 51", 0, api.ErrSyntax)
	refused(t, "a <- ) b <- )", 5, api.ErrSyntax)
	refused(t, "a <- 'x' -> 99 b <- c <- d", 12, api.ErrRange)
	refused(t, "('a' -> '%'", 8, api.ErrTemplate)
	refused(t, "'a' -> '%' b <- c", 7, api.ErrTemplate)
	refused(t, deep+"( )", 240, api.ErrDeep)
	refused(t, deep+"'a' -> '%' (", 247, api.ErrTemplate)
	refused(t, deep+"'a' -> 51 (", 247, api.ErrRange)
	refused(t, deep+"/ (", 240, api.ErrSyntax)
	refused(t, deep+"'a' ( -> 51", 244, api.ErrDeep)
	refused(t, "'a' -> 51"+deep+"(", 7, api.ErrRange)
	// A sign that may not stand there at all is refused for that, however deep it is.
	refused(t, deep+"'a' -> (", 247, api.ErrSyntax)
	refused(t, deep+"'a' -> {", 247, api.ErrSyntax)
	refused(t, deep+"'a' -> !", 247, api.ErrSyntax)
}

// N2: a text that has rules is refused at its first token, whatever else is wrong with it.
func TestPatternOfRules(t *testing.T) {
	deep := strings.Repeat("{", 60) + "." + strings.Repeat("}", 60)
	for _, text := range []string{"a <- 'b'", "a<-b", "a <-", "a <- )", "a <- 'b' c <- 'd'", "a <- b <- c", "a <- 'b' -> '%'", "a <- 'b' -> 51", "a <- " + deep, "a <- " + strings.Repeat("(", 250), many(200), many(201), "a <- " + strings.Repeat(".", 3000)} {
		for _, ahead := range []string{"", " ", "\r\n", "-- note\n  "} {
			p, f := notation.Pattern(ahead + text)
			if len(p) != 0 || f != (api.Fault{At: len(ahead), Code: api.ErrSyntax}) {
				t.Errorf("Pattern(%s): %v, %v", short(ahead+text), p, f)
			}
		}
	}
	for text, want := range map[string]api.Fault{
		"a <- $":                              {At: 5, Code: api.ErrToken},
		"a <- 'b":                             {At: 5, Code: api.ErrOpen},
		"a <- '" + strings.Repeat(" ", 65536): {At: 0, Code: api.ErrLong},
	} {
		if p, f := notation.Pattern(text); len(p) != 0 || f != want {
			t.Errorf("Pattern(%s): %v, %v, want %v", short(text), p, f, want)
		}
	}
}
