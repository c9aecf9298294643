package tests

import (
	"math"
	"regexp"
	"slices"
	"strconv"
	"strings"
	"testing"

	"loop.example/g00495/impl"
)

// signs lists the operators of the specification.
var signs = []string{"(", ")", ",", ".", "*", "+", "-", "/", "%", "=", "<>", "<", "<=", ">", ">=", "||"}

func key(text string, at int) impl.Token  { return impl.Token{Kind: impl.TkKey, Text: text, At: at} }
func name(text string, at int) impl.Token { return impl.Token{Kind: impl.TkName, Text: text, At: at} }
func num(text string, at int) impl.Token  { return impl.Token{Kind: impl.TkInt, Text: text, At: at} }
func text(text string, at int) impl.Token { return impl.Token{Kind: impl.TkText, Text: text, At: at} }
func sign(text string, at int) impl.Token { return impl.Token{Kind: impl.TkSign, Text: text, At: at} }

// lexes checks that s has the tokens of want, at their offsets.
func lexes(t *testing.T, s string, want ...impl.Token) {
	t.Helper()
	if got, bad := impl.Lex(s); bad != -1 || !slices.Equal(got, want) {
		t.Errorf("Lex(%q) = %v, %d, want %v, -1", s, got, bad, want)
	}
}

// failsAt checks that Lex fails at offset at of s.
func failsAt(t *testing.T, s string, at int) {
	t.Helper()
	if got, bad := impl.Lex(s); bad != at || len(got) != 0 {
		t.Errorf("Lex(%q) = %v, %d, want no tokens, %d", s, got, bad, at)
	}
}

func TestLexConstants(t *testing.T) {
	got := []int{impl.MaxSource, impl.MaxText, impl.TkKey, impl.TkName, impl.TkInt, impl.TkText, impl.TkSign}
	if want := []int{2000, 40, 1, 2, 3, 4, 5}; !slices.Equal(got, want) {
		t.Errorf("the constants are %v, want %v", got, want)
	}
}

func TestSignOk(t *testing.T) {
	check := func(s string) {
		if got, want := impl.SignOk(s), slices.Contains(signs, s); got != want {
			t.Errorf("SignOk(%q) = %v, want %v", s, got, want)
		}
	}
	for _, s := range signs {
		check(s)
		oneByteOff(s, check)
	}
	for b := range 256 {
		check(stringOfBytes(byte(b)))
		for c := range 256 {
			check(stringOfBytes(byte(b), byte(c)))
		}
	}
	for _, s := range []string{"", "|", "!", "!=", "<=>", "==", "><", "=<", "=>", "--", "/*", "*/", ";", "AND", "NOT", strings.Join(signs, " ")} {
		check(s)
	}
}

// validTokens lists valid tokens of each kind; all of them have the offset 0.
func validTokens() []impl.Token {
	var list []impl.Token
	for _, k := range keyNumbers {
		list = append(list, key(k.text, 0), name(k.text, 0), name(strings.ToLower(k.text), 0), text(k.text, 0))
	}
	for _, s := range signs {
		list = append(list, sign(s, 0), name(s, 0), text(s, 0))
	}
	for _, s := range []string{"a", "Ab_9", "_", "0", "1a", "a b", "\"", "\"\"", "\"a\"b\"", "'", "a'b", "\x00", "\n", "\xff", "é", "--", "/*"} {
		list = append(list, name(s, 0), text(s, 0))
	}
	for _, b := range []string{"a", "_", "7", " ", "\"", "'", "\x80", "\xff"} {
		list = append(list, name(strings.Repeat(b, 20), 0), text(strings.Repeat(b, 20), 0), text(strings.Repeat(b, 40), 0))
	}
	for _, s := range []string{"0", "1", "9", "10", "42", "1000000000000000000", "9223372036854775806", "9223372036854775807"} {
		list = append(list, num(s, 0), name(s, 0), text(s, 0))
	}
	return append(list, text("", 0))
}

// invalidTokens lists tokens that are not valid, with the offset 0.
func invalidTokens() []impl.Token {
	list := []impl.Token{{}, key("", 0), name("", 0), num("", 0), sign("", 0)}
	for _, k := range keyNumbers {
		lower := strings.ToLower(k.text)
		list = append(list, key(lower, 0), key(k.text[:1]+lower[1:], 0), key(lower[:1]+k.text[1:], 0), key(k.text+" ", 0), num(k.text, 0), sign(k.text, 0))
	}
	for _, s := range []string{"a", "A", "TABLE", "\"SELECT\"", "1", "+", " ", "ſELECT", "\xff"} {
		list = append(list, key(s, 0))
	}
	for _, b := range []string{"a", "_", "7", " ", "\"", "\xff"} {
		list = append(list, name(strings.Repeat(b, 21), 0), text(strings.Repeat(b, 41), 0))
	}
	for _, s := range []string{"00", "01", "007", "-1", "+1", " 1", "1 ", "1a", "1_0", "0x1", "1.0", "9223372036854775808", "18446744073709551616", "99999999999999999999", "a", "\xb2", "\u0661"} {
		list = append(list, num(s, 0))
	}
	for _, s := range []string{"a", "1", "|", "!=", "==", "((", "--", " +", "+ ", "\xff"} {
		list = append(list, sign(s, 0))
	}
	for _, kind := range []int{0, -1, -2, -3, -4, -5, 6, 7, 8, 256, 257, 1 << 32, 1<<32 + 1, math.MaxInt, math.MinInt} {
		for _, s := range []string{"", "SELECT", "a", "1", "+"} {
			list = append(list, impl.Token{Kind: kind, Text: s})
		}
	}
	return list
}

func TestTokenOk(t *testing.T) {
	check := func(list []impl.Token, want bool) {
		for _, token := range list {
			for _, at := range []int{0, 1, 7, 2000, 2001, -1, math.MaxInt, math.MinInt} {
				token.At = at
				if got := impl.TokenOk(token); got != want {
					t.Errorf("TokenOk(%#v) = %v, want %v", token, got, want)
				}
			}
		}
	}
	check(validTokens(), true)
	check(invalidTokens(), false)
}

func TestTokenText(t *testing.T) {
	q20, s40 := strings.Repeat("\"", 20), strings.Repeat("'", 40)
	for _, c := range []struct {
		token impl.Token
		want  string
	}{
		{key("SELECT", 0), "SELECT"},
		{key("BY", 9), "BY"},
		{name("a", 0), "a"},
		{name("Ab_9", -1), "Ab_9"},
		{name("select", 0), "\"select\""},
		{name("BY", 0), "\"BY\""},
		{name("a b", 0), "\"a b\""},
		{name("1", 0), "\"1\""},
		{name("\"a\"\"b\"", 0), "\"\"\"a\"\"\"\"b\"\"\""},
		{name("it's", 0), "\"it's\""},
		{name("\xff\x00", 0), "\"\xff\x00\""},
		{name(q20, 0), "\"" + q20 + q20 + "\""},
		{num("0", 0), "0"},
		{num("9223372036854775807", math.MaxInt), "9223372036854775807"},
		{text("", 0), "''"},
		{text("a", 0), "'a'"},
		{text("select", 0), "'select'"},
		{text("'it''s'", 0), "'''it''''s'''"},
		{text("say \"x\"", 0), "'say \"x\"'"},
		{text("\xff\x00", 0), "'\xff\x00'"},
		{text(s40, 0), "'" + s40 + s40 + "'"},
	} {
		if got := impl.TokenText(c.token); got != c.want {
			t.Errorf("TokenText(%#v) = %q, want %q", c.token, got, c.want)
		}
	}
	for _, s := range signs {
		if got := impl.TokenText(sign(s, 3)); got != s {
			t.Errorf("TokenText of the operator %q is %q", s, got)
		}
	}
	for _, token := range invalidTokens() {
		if got := impl.TokenText(token); got != "" {
			t.Errorf("TokenText(%#v) = %q, want \"\"", token, got)
		}
	}
}

func TestTokensAreLexedFromTheirText(t *testing.T) {
	for _, token := range validTokens() {
		s := impl.TokenText(token)
		lexes(t, s, token)
		shifted := token
		shifted.At = 2
		lexes(t, "\n "+s+"\t", shifted)
		for _, other := range validTokens()[:40] {
			other.At = len(s) + 1
			lexes(t, s+" "+impl.TokenText(other), token, other)
		}
	}
}

func TestLexWhiteSpace(t *testing.T) {
	lexes(t, "")
	for b := range 256 {
		s := stringOfBytes(byte(b))
		if strings.Contains(" \t\n\r", s) {
			lexes(t, s)
			lexes(t, s+s+s)
			lexes(t, s+"a"+s+s+"b"+s, name("a", 1), name("b", 4))
		} else if got, bad := impl.Lex(s); bad == -1 && len(got) != 1 {
			t.Errorf("Lex(%q) = %v, %d", s, got, bad)
		}
	}
	lexes(t, " \t\n\r")
	lexes(t, " \t\n\r1\r\n\t 2", num("1", 4), num("2", 9))
	for _, s := range []string{"\v", "\f", "\x00", "\x1f", "\x7f", "\x85", "\xa0", "\u00a0", "\u2003", "\ufeff"} {
		failsAt(t, s, 0)
		failsAt(t, "a "+s+" b", 2)
	}
}

func TestLexLineComments(t *testing.T) {
	for _, s := range []string{"--", "---", "----", "-- ", "--a", "--'", "--\"", "--/*", "--*/", "-- it's \"x\" /* ?!;\xff\x00", "--\r"} {
		lexes(t, s)
		lexes(t, s+"\n")
		lexes(t, s+"\n"+s)
		lexes(t, s+"\nb", name("b", len(s)+1))
		lexes(t, "a"+s+"\n+", name("a", 0), sign("+", len(s)+2))
		failsAt(t, s+"\n?", len(s)+1)
	}
	lexes(t, "--a\rb")
	lexes(t, "--/*\n1", num("1", 5))
	lexes(t, "- -", sign("-", 0), sign("-", 2))
	lexes(t, "1--2", num("1", 0))
	lexes(t, "<--a\n=", sign("<", 0), sign("=", 5))
	lexes(t, "-/**/-", sign("-", 0), sign("-", 5))
}

func TestLexBlockComments(t *testing.T) {
	for _, s := range []string{"/**/", "/***/", "/****/", "/*/*/", "/* */", "/*a\nb*/", "/*'*/", "/*\"*/", "/*--*/", "/*--\n*/", "/* it's \"x\" ?;\xff\x00 */", "/* /* */"} {
		lexes(t, s)
		lexes(t, s+s)
		lexes(t, "a"+s+"b", name("a", 0), name("b", 1+len(s)))
		lexes(t, s+"*/", sign("*", len(s)), sign("/", len(s)+1))
		failsAt(t, s+"?", len(s))
		for i := 2; i < len(s); i++ {
			failsAt(t, s[:i], 0)
			failsAt(t, "+ "+s[:i], 2)
		}
	}
	for _, s := range []string{"/*", "/*/", "/**", "/*/*", "/*/ *", "/* * /", "/*a", "/*'*", "/*--\n", "/*\xff"} {
		failsAt(t, s, 0)
		failsAt(t, "a"+s, 1)
		failsAt(t, "/**/ "+s, 5)
	}
	lexes(t, "/ *", sign("/", 0), sign("*", 2))
	lexes(t, "*/", sign("*", 0), sign("/", 1))
	lexes(t, "//**/", sign("/", 0))
	lexes(t, "'/*'", text("/*", 0))
	lexes(t, "\"--\"", name("--", 0))
}

func TestLexWords(t *testing.T) {
	for _, k := range keyNumbers {
		caseForms(k.text, func(s string) { lexes(t, s, key(k.text, 0)) })
		lower := strings.ToLower(k.text)
		lexes(t, "("+lower+")", sign("(", 0), key(k.text, 1), sign(")", 1+len(lower)))
		lexes(t, "\""+lower+"\"", name(lower, 0))
		for _, s := range []string{"_" + lower, lower + "_", lower + "0", lower + "x", "x" + k.text} {
			lexes(t, s, name(s, 0))
		}
	}
	for _, s := range []string{"a", "z", "A", "Z", "_", "__", "_0", "a0", "aB_9", "selects", "abcdefghijklmnopqrst", "uvwxyzABCDEFGHIJKLMN", "OPQRSTUVWXYZ_0123456", "_7890123456789012345"} {
		lexes(t, s, name(s, 0))
		lexes(t, " "+s+"."+s, name(s, 1), sign(".", 1+len(s)), name(s, 2+len(s)))
	}
	for _, s := range []string{strings.Repeat("a", 21), strings.Repeat("_", 21), strings.Repeat("select", 4), strings.Repeat("a", 2000)} {
		failsAt(t, s, 0)
	}
	failsAt(t, "a "+strings.Repeat("b", 21)+" ?", 2)
	failsAt(t, "caf\xe9", 3)
	failsAt(t, "é", 0)
}

func TestLexIntegers(t *testing.T) {
	for _, s := range []string{"0", "1", "9", "10", "1234567890", "9223372036854775807"} {
		lexes(t, s, num(s, 0))
		lexes(t, "-"+s+","+s, sign("-", 0), num(s, 1), sign(",", 1+len(s)), num(s, 2+len(s)))
		lexes(t, s+"'a'\"b\"", num(s, 0), text("a", len(s)), name("b", len(s)+3))
	}
	for _, s := range []string{"00", "01", "0a", "0_", "12x", "1_", "1_000", "1e5", "0x1F", "1a2b", "2select", "9223372036854775808", "18446744073709551617", strings.Repeat("9", 30), strings.Repeat("1", 1996)} {
		failsAt(t, s, 0)
		failsAt(t, "a, "+s, 3)
		failsAt(t, s+" ?", 0)
	}
	lexes(t, "1.5", num("1", 0), sign(".", 1), num("5", 2))
	failsAt(t, "1.05", 2)
	failsAt(t, "1\xb2", 1)
}

// checkQuoted tests strings in quote, whose tokens have the kind kind and at most size bytes.
func checkQuoted(t *testing.T, quote string, kind, size int) {
	t.Helper()
	q := func(s string) string { return strings.ReplaceAll(s, "q", quote) }
	for _, c := range []struct{ source, value string }{
		{"qaq", "a"},
		{"qa b\tc\nq", "a b\tc\n"},
		{"qqqaq", "qa"},
		{"qaqqbq", "aqb"},
		{"qaqqq", "aq"},
		{"qqqq", "q"},
		{"qqqqqq", "qq"},
		{"qqqaqqbqqq", "qaqbq"},
		{"qaqqqqbq", "aqqb"},
		{"q\x80\xff\xc3q", "\x80\xff\xc3"},
		{"q\xffqq\xfeq", "\xffq\xfe"},
		{"q\x00\\q", "\x00\\"},
		{"q--q", "--"},
		{"q/*q", "/*"},
		{"q" + strings.Repeat("x", size) + "q", strings.Repeat("x", size)},
		{"q" + strings.Repeat("qq", size) + "q", strings.Repeat("q", size)},
		{"q" + strings.Repeat("\xff", size) + "q", strings.Repeat("\xff", size)},
	} {
		source, value := q(c.source), q(c.value)
		first := impl.Token{Kind: kind, Text: value}
		second := impl.Token{Kind: kind, Text: value, At: len(source) + 1}
		lexes(t, source, first)
		lexes(t, source+"a", first, name("a", len(source)))
		lexes(t, source+" "+source, first, second)
		for i := 1; i < len(source); i++ {
			if prefix := source[:i]; strings.Count(prefix, quote)%2 == 1 {
				failsAt(t, prefix, 0)
				failsAt(t, "a "+prefix, 2)
			}
		}
	}
	for _, s := range []string{"q", "qqq", "qa", "qaqq", "qqqa", "qqqqq", "q\xff", "qa\n", "qaqqb", "q" + strings.Repeat("x", size+1) + "q", "q" + strings.Repeat("qq", size+1) + "q", "q" + strings.Repeat("x", size+1)} {
		failsAt(t, q(s), 0)
		failsAt(t, "(+"+q(s), 2)
	}
	failsAt(t, q("qaq?qb"), 3)
	failsAt(t, q("qaq qb"), 4)
	failsAt(t, q("qb ?"), 0)
}

func TestLexQuoted(t *testing.T) {
	checkQuoted(t, "\"", impl.TkName, 20)
	checkQuoted(t, "'", impl.TkText, 40)
	lexes(t, "''", text("", 0))
	lexes(t, "'' ''", text("", 0), text("", 3))
	failsAt(t, "\"\"", 0)
	failsAt(t, "a \"\" ?", 2)
	failsAt(t, "\"\" \"", 0)
	lexes(t, "\"it's\"'say \"x\"'", name("it's", 0), text("say \"x\"", 6))
	lexes(t, "\"'\"'\"'", name("'", 0), text("\"", 3))
	lexes(t, "''\"a\"''", text("", 0), name("a", 2), text("", 5))
}

func TestLexSigns(t *testing.T) {
	for _, s := range signs {
		lexes(t, s, sign(s, 0))
		lexes(t, "a"+s+"b", name("a", 0), sign(s, 1), name("b", 1+len(s)))
		for _, next := range signs {
			lexes(t, s+" "+next, sign(s, 0), sign(next, len(s)+1))
		}
	}
	lexes(t, "<=>", sign("<=", 0), sign(">", 2))
	lexes(t, "<>=", sign("<>", 0), sign("=", 2))
	lexes(t, "<<=", sign("<", 0), sign("<=", 1))
	lexes(t, "><", sign(">", 0), sign("<", 1))
	lexes(t, ">=>", sign(">=", 0), sign(">", 2))
	lexes(t, "=<>", sign("=", 0), sign("<>", 1))
	lexes(t, "==>", sign("=", 0), sign("=", 1), sign(">", 2))
	lexes(t, "||||", sign("||", 0), sign("||", 2))
	lexes(t, "),(.*%+", sign(")", 0), sign(",", 1), sign("(", 2), sign(".", 3), sign("*", 4), sign("%", 5), sign("+", 6))
	lexes(t, "a.*", name("a", 0), sign(".", 1), sign("*", 2))
	failsAt(t, "|", 0)
	failsAt(t, "| |", 0)
	failsAt(t, "|||", 2)
	failsAt(t, "a||b|c", 4)
	failsAt(t, "a != b", 2)
}

func TestLexBytesThatBeginNoToken(t *testing.T) {
	begins := regexp.MustCompile(`\A[A-Za-z0-9_"'(),.*+/%=<> \t\n\r-]`)
	for b := range 256 {
		s := stringOfBytes(byte(b))
		if begins.MatchString(s) {
			continue
		}
		failsAt(t, s, 0)
		failsAt(t, s+"a", 0)
		failsAt(t, "a"+s, 1)
		failsAt(t, "1"+s+"1", 1)
		failsAt(t, "+ 'a'"+s+" '", 5)
		lexes(t, "'"+s+"'", text(s, 0))
		lexes(t, "\""+s+"\"", name(s, 0))
		lexes(t, "--"+s+"\n/*"+s+"*/")
	}
}

func TestLexLongSources(t *testing.T) {
	lexes(t, strings.Repeat(" ", 2000))
	lexes(t, strings.Repeat(" ", 1999)+"a", name("a", 1999))
	lexes(t, "/*"+strings.Repeat("x", 1996)+"*/")
	lexes(t, "--"+strings.Repeat("x", 1998))
	failsAt(t, strings.Repeat(" ", 1999)+"?", 1999)
	failsAt(t, "/*"+strings.Repeat("x", 1998), 0)
	for _, s := range []string{strings.Repeat(" ", 2001), "?" + strings.Repeat(" ", 2000), "a" + strings.Repeat(" ", 2000), "--" + strings.Repeat("x", 1999), strings.Repeat("(", 2001), strings.Repeat("'", 2001), "'" + strings.Repeat("x", 2000), strings.Repeat("\xff", 2001), strings.Repeat("a", 100000)} {
		failsAt(t, s, 2000)
	}
	var want []impl.Token
	for i := range 2000 {
		want = append(want, sign("(", i))
	}
	lexes(t, strings.Repeat("(", 2000), want...)
	failsAt(t, strings.Repeat("(", 1999)+"|", 1999)
}

// lexRules describes tokens: what begins as first says must continue as whole says, up to the end of its group.
var lexRules = []struct {
	kind         int
	first, whole *regexp.Regexp
}{
	{0, regexp.MustCompile(`\A[ \t\n\r]`), regexp.MustCompile(`\A([ \t\n\r])`)},
	{0, regexp.MustCompile(`\A--`), regexp.MustCompile(`\A(--[^\n]*)`)},
	{0, regexp.MustCompile(`\A/\*`), regexp.MustCompile(`(?s)\A(/\*.*?\*/)`)},
	{impl.TkName, regexp.MustCompile(`\A[A-Za-z_]`), regexp.MustCompile(`\A(\w{1,20})(?:\W|\z)`)},
	{impl.TkInt, regexp.MustCompile(`\A[0-9]`), regexp.MustCompile(`\A(0|[1-9][0-9]*)(?:\W|\z)`)},
	{impl.TkName, regexp.MustCompile(`\A"`), regexp.MustCompile(`\A("(?:[^"]|""){1,20}")(?:[^"]|\z)`)},
	{impl.TkText, regexp.MustCompile(`\A'`), regexp.MustCompile(`\A('(?:[^']|''){0,40}')(?:[^']|\z)`)},
	{impl.TkSign, regexp.MustCompile(``), regexp.MustCompile(`\A(<>|<=|>=|\|\||[(),.*+/%=<>-])`)},
}

// firstByRules returns the token that s begins with, the length of its source, and false if s begins with an invalid element.
func firstByRules(s string) (impl.Token, int, bool) {
	for _, rule := range lexRules {
		if !rule.first.MatchString(s) {
			continue
		}
		found := rule.whole.FindStringSubmatch(s)
		if found == nil {
			return impl.Token{}, 0, false
		}
		token := impl.Token{Kind: rule.kind, Text: found[1]}
		switch {
		case rule.kind == impl.TkName && isKeyword(found[1]):
			token = key(asciiUpper(found[1]), 0)
		case rule.kind == impl.TkInt:
			if _, err := strconv.Atoi(found[1]); err != nil {
				return impl.Token{}, 0, false
			}
		case found[1][0] == '"' || found[1][0] == '\'':
			token.Text, _ = unquoted(found[1], found[1][:1])
		}
		return token, len(found[1]), true
	}
	return impl.Token{}, 0, false
}

// lexByRules is Lex for sources that are not too long, without a use of the program.
func lexByRules(s string) ([]impl.Token, int) {
	var list []impl.Token
	for at := 0; at < len(s); {
		token, size, ok := firstByRules(s[at:])
		if !ok {
			return nil, at
		}
		if token.Kind != 0 {
			token.At = at
			list = append(list, token)
		}
		at += size
	}
	return list, -1
}

// checkLex compares Lex at s with the rules, and checks that the source before each token gives the earlier ones.
func checkLex(t *testing.T, s string) {
	t.Helper()
	want, at := lexByRules(s)
	got, bad := impl.Lex(s)
	if bad != at || !slices.Equal(got, want) {
		t.Errorf("Lex(%q) = %v, %d, want %v, %d", s, got, bad, want, at)
		return
	}
	for i, token := range got {
		if !impl.TokenOk(token) {
			t.Errorf("Lex(%q) has the token %#v", s, token)
		}
		lexes(t, s[:token.At], got[:i]...)
	}
	if bad >= 0 {
		if _, before := impl.Lex(s[:bad]); before != -1 {
			t.Errorf("Lex(%q) fails at %d, but Lex of the text before fails at %d", s, bad, before)
		}
	}
}

func TestLexShortSources(t *testing.T) {
	check := func(s string) { checkLex(t, s) }
	stringsOver("'a ", 8, check)
	stringsOver("\"b-", 7, check)
	stringsOver("'\"x\xff", 6, check)
	stringsOver("/*-\n'", 6, check)
	stringsOver("<>=|-/*", 4, check)
	stringsOver("01a_ .", 4, check)
	stringsOver("oOnN_1\"\x80", 4, check)
	stringsOver("a1'\"(),.*+-/%=<>| \t\n\r?\x00\xff", 3, check)
}

func TestLexStatement(t *testing.T) {
	s := "Select DISTINCT t.\"a\"\"b\",-10 aS x/*c*/From\n t--'\nwhere 'it''s'||''<>y\r\nand z>=(0)%9223372036854775807"
	lexes(t, s, key("SELECT", 0), key("DISTINCT", 7), name("t", 16), sign(".", 17), name("a\"b", 18), sign(",", 24),
		sign("-", 25), num("10", 26), key("AS", 29), name("x", 32), key("FROM", 38), name("t", 44), key("WHERE", 49),
		text("it's", 55), sign("||", 62), text("", 64), sign("<>", 66), name("y", 68), key("AND", 71), name("z", 75),
		sign(">=", 76), sign("(", 78), num("0", 79), sign(")", 80), sign("%", 81), num("9223372036854775807", 82))
	for i := range len(s) + 1 {
		checkLex(t, s[:i])
		checkLex(t, s[i:])
		checkLex(t, s[:i]+"'"+s[i:])
		checkLex(t, s[:i]+"\""+s[i:])
		checkLex(t, s[:i]+"?"+s[i:])
	}
}

func TestSameTokens(t *testing.T) {
	list := []impl.Token{key("SELECT", 0), name("a", 7), sign("+", 8), num("1", 9), text("x", 10)}
	moved := slices.Clone(list)
	for i := range moved {
		moved[i].At = math.MinInt + i
	}
	for _, pair := range [][2][]impl.Token{
		{nil, nil},
		{nil, {}},
		{{}, nil},
		{{}, list[:0]},
		{list, list},
		{list, moved},
		{moved, slices.Clone(list)},
		{{name("a", 1)}, {name("a", 2)}},
		{{{}}, {{At: 5}}},
		{{{Kind: -7, Text: "x"}}, {{Kind: -7, Text: "x", At: -1}}},
	} {
		if !impl.SameTokens(pair[0], pair[1]) {
			t.Errorf("SameTokens(%v, %v) = false", pair[0], pair[1])
		}
	}
}

func TestSameTokensDiffer(t *testing.T) {
	list := []impl.Token{key("SELECT", 0), name("a", 7), sign("+", 8), num("1", 9), text("x", 10)}
	differ := func(a, b []impl.Token) {
		t.Helper()
		if impl.SameTokens(a, b) || impl.SameTokens(b, a) {
			t.Errorf("SameTokens finds %v and %v the same", a, b)
		}
	}
	for i := range list {
		differ(list, list[:i])
		differ(list, slices.Delete(slices.Clone(list), i, i+1))
		differ(list, slices.Insert(slices.Clone(list), i, list[i]))
		other := slices.Clone(list)
		other[i].Kind = -list[i].Kind
		differ(list, other)
		other[i] = list[i]
		other[i].Text += " "
		differ(list, other)
		other[i].Text = ""
		differ(list, other)
		if i > 0 {
			other = slices.Clone(list)
			other[i-1], other[i] = other[i], other[i-1]
			differ(list, other)
		}
	}
	differ(nil, list)
	differ(nil, []impl.Token{{}})
	differ([]impl.Token{name("a", 0)}, []impl.Token{name("A", 0)})
	differ([]impl.Token{name("SELECT", 0)}, []impl.Token{key("SELECT", 0)})
	differ([]impl.Token{text("1", 0)}, []impl.Token{num("1", 0)})
}

func TestSameTokensChangesNothing(t *testing.T) {
	list := []impl.Token{key("SELECT", 0), name("a", 7), sign("+", 8)}
	a, b := slices.Clone(list), slices.Clone(list)
	impl.SameTokens(a[:2], b[:1])
	impl.SameTokens(a[:2], b[:2])
	if !slices.Equal(a, list) || !slices.Equal(b, list) {
		t.Errorf("SameTokens changed its arguments to %v and %v", a, b)
	}
}

func TestLexResultsAreNew(t *testing.T) {
	first, _ := impl.Lex("a + 1")
	second, _ := impl.Lex("a + 1")
	_ = append(first[:1], text("x", 9))
	first[0] = impl.Token{}
	if !slices.Equal(second, []impl.Token{name("a", 0), sign("+", 2), num("1", 4)}) {
		t.Errorf("a change of one result changed another one to %v", second)
	}
	lexes(t, "a + 1", second...)
}
