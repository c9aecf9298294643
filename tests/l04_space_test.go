package tests

import (
	"math"
	"math/rand"
	"slices"
	"strings"
	"testing"

	"loop.example/g00495/impl"
)

// edges lists one token for each way in which spacing tells tokens apart, in the order of the table of TestNeedsGapAtKinds.
var edges = []impl.Token{key("SELECT", 0), num("1", 0), name("a", 0), name("b c", 0), text("x", 0), sign("+", 0)}

func TestNeedsGapAtKinds(t *testing.T) {
	for i, row := range []string{
		// keyword, integer, plain name, quoted name, string, operator
		"yyy---",
		"yyy---",
		"yyy---",
		"---y--",
		"----y-",
		"------",
	} {
		for j := range row {
			if got, want := impl.NeedsGap(edges[i], edges[j]), row[j] == 'y'; got != want {
				t.Errorf("NeedsGap(%v, %v) = %v, want %v", edges[i], edges[j], got, want)
			}
		}
	}
}

func TestNeedsGapAtSigns(t *testing.T) {
	merging := []string{"- -", "/ *", "< =", "< >", "< >=", "> ="}
	for _, a := range signs {
		for _, b := range signs {
			if got, want := impl.NeedsGap(sign(a, 0), sign(b, 0)), slices.Contains(merging, a+" "+b); got != want {
				t.Errorf("NeedsGap at the operators %s and %s is %v, want %v", a, b, got, want)
			}
		}
	}
}

func TestNeedsGapTakesSignsFromOperatorsOnly(t *testing.T) {
	for _, a := range signs {
		for _, b := range signs {
			for _, pair := range [][2]impl.Token{{name(a, 0), sign(b, 0)}, {sign(a, 0), name(b, 0)}, {text(a, 0), sign(b, 0)}, {sign(a, 0), text(b, 0)}, {name(a, 0), text(b, 0)}, {text(a, 0), name(b, 0)}} {
				if impl.NeedsGap(pair[0], pair[1]) {
					t.Errorf("NeedsGap(%v, %v) = true", pair[0], pair[1])
				}
			}
			if !impl.NeedsGap(name(a, 0), name(b, 0)) || !impl.NeedsGap(text(a, 0), text(b, 0)) {
				t.Errorf("NeedsGap at two names or at two strings %s and %s is false", a, b)
			}
		}
	}
}

func TestNeedsGapAtNamesThatAreKeywords(t *testing.T) {
	for _, k := range keyNumbers {
		for _, s := range []string{k.text, strings.ToLower(k.text), k.text[:1] + strings.ToLower(k.text[1:])} {
			quoted := name(s, 0)
			for i, other := range edges {
				// Only the quoted name merges with a name that is a keyword, which is quoted too.
				if a, b := impl.NeedsGap(quoted, other), impl.NeedsGap(other, quoted); a != (i == 3) || b != (i == 3) {
					t.Errorf("NeedsGap at the name %s and %v is %v, and %v in the other order", s, other, a, b)
				}
			}
			if !impl.NeedsGap(quoted, quoted) || impl.NeedsGap(quoted, key(k.text, 0)) || impl.NeedsGap(key(k.text, 0), quoted) {
				t.Errorf("NeedsGap at the name %s and the same name or the keyword", s)
			}
			// With one byte more it is no keyword.
			if longer := name(s+"_", 0); !impl.NeedsGap(longer, key(k.text, 0)) || impl.NeedsGap(longer, quoted) {
				t.Errorf("NeedsGap at the plain name %s_", s)
			}
		}
	}
}

func TestNeedsGapAtOtherNamesAndTexts(t *testing.T) {
	for _, c := range []struct {
		a, b impl.Token
		want bool
	}{
		{num("1", 0), name("x1", 0), true},
		{num("1", 0), name("1x", 0), false},
		{name("x1", 0), num("0", 0), true},
		{name("é", 0), name("a", 0), false},
		{name("é", 0), name("\xff", 0), true},
		{name("a", 0), name("B_9", 0), true},
		{name("_", 0), name("_", 0), true},
		{name(strings.Repeat("a", 20), 0), key("BY", 0), true},
		{name("\"", 0), name("\"\"", 0), true},
		{name("\"", 0), text("\"", 0), false},
		{text("", 0), text("", 0), true},
		{text("'", 0), text("'", 0), true},
		{text("", 0), name("b c", 0), false},
		{text("select", 0), key("SELECT", 0), false},
		{text(strings.Repeat("'", 40), 0), text(strings.Repeat("x", 40), 0), true},
		{num("9223372036854775807", 0), num("0", 0), true},
		{num("1", 0), sign(".", 0), false},
		{sign("-", 0), num("1", 0), false},
	} {
		if got := impl.NeedsGap(c.a, c.b); got != c.want {
			t.Errorf("NeedsGap(%v, %v) = %v, want %v", c.a, c.b, got, c.want)
		}
	}
}

func TestNeedsGapAtInvalidTokens(t *testing.T) {
	others := append(slices.Clone(edges), sign("-", 0), sign("<", 0), sign(">", 0), sign("=", 0), sign("*", 0), impl.Token{})
	for _, bad := range invalidTokens() {
		for _, other := range append(others, bad) {
			if impl.NeedsGap(bad, other) || impl.NeedsGap(other, bad) {
				t.Errorf("NeedsGap at %#v, which is invalid, and %#v, in one order or the other, is true", bad, other)
			}
		}
	}
}

func TestNeedsGapIgnoresOffsets(t *testing.T) {
	for _, a := range append(slices.Clone(edges), sign("-", 0), sign("<", 0)) {
		for _, b := range append(slices.Clone(edges), sign("-", 0), sign(">", 0)) {
			want := impl.NeedsGap(a, b)
			for _, at := range []int{1, 2000, -1, math.MaxInt, math.MinInt} {
				c, d := a, b
				c.At, d.At = at, -at
				if impl.NeedsGap(c, d) != want || impl.NeedsGap(a, d) != want || impl.NeedsGap(c, b) != want {
					t.Errorf("NeedsGap(%v, %v) = %v, but not at other offsets", a, b, want)
				}
			}
		}
	}
}

// isLexedTo reports whether s is lexed to the kinds and texts of want, without a use of SameTokens.
func isLexedTo(s string, want []impl.Token) bool {
	got, bad := impl.Lex(s)
	return bad == -1 && slices.EqualFunc(got, want, func(a, b impl.Token) bool { return a.Kind == b.Kind && a.Text == b.Text })
}

func TestNeedsGapWhereTokensMerge(t *testing.T) {
	list := validTokens()
	for _, a := range list {
		for _, b := range list {
			merge := !isLexedTo(impl.TokenText(a)+impl.TokenText(b), []impl.Token{a, b})
			if got := impl.NeedsGap(a, b); got != merge {
				t.Errorf("NeedsGap(%v, %v) = %v, want %v", a, b, got, merge)
			}
		}
	}
}

func TestSpacedAndLoose(t *testing.T) {
	for _, c := range []struct {
		list          []impl.Token
		spaced, loose string
	}{
		{nil, "", ""},
		{[]impl.Token{}, "", ""},
		{edges[:1], "SELECT", "SELECT"},
		{edges[1:2], "1", "1"},
		{edges[2:3], "a", "a"},
		{edges[3:4], "\"b c\"", "\"b c\""},
		{edges[4:5], "'x'", "'x'"},
		{edges[5:], "+", "+"},
		{[]impl.Token{text("", 0)}, "''", "''"},
		{[]impl.Token{name("from", 0)}, "\"from\"", "\"from\""},
		{edges, "SELECT 1 a\"b c\"'x'+", "SELECT 1 a \"b c\" 'x' +"},
		{[]impl.Token{edges[5], edges[4], edges[3], edges[2], edges[1], edges[0]}, "+'x'\"b c\"a 1 SELECT", "+ 'x' \"b c\" a 1 SELECT"},
		{[]impl.Token{text("a", 0), text("", 0), text("'", 0)}, "'a' '' ''''", "'a' '' ''''"},
		{[]impl.Token{name("b c", 0), name("\"", 0), name("in", 0), name("d", 0)}, "\"b c\" \"\"\"\" \"in\"d", "\"b c\" \"\"\"\" \"in\" d"},
		{[]impl.Token{sign("-", 0), sign("-", 0), sign("-", 0)}, "- - -", "- - -"},
		{[]impl.Token{sign("/", 0), sign("*", 0), sign("/", 0)}, "/ */", "/ * /"},
		{[]impl.Token{sign("<", 0), sign("<", 0), sign("=", 0), sign(">", 0), sign(">=", 0)}, "<< =>>=", "< < = > >="},
		{[]impl.Token{sign("(", 0), num("1", 0), sign("||", 0), sign("||", 0), sign(")", 0), key("IS", 0)}, "(1||||)IS", "( 1 || || ) IS"},
		{[]impl.Token{name("a", 90), sign(".", -1), sign("*", math.MinInt)}, "a.*", "a . *"},
	} {
		if got := impl.Spaced(c.list); got != c.spaced {
			t.Errorf("Spaced(%v) = %q, want %q", c.list, got, c.spaced)
		}
		if got := impl.Loose(c.list); got != c.loose {
			t.Errorf("Loose(%v) = %q, want %q", c.list, got, c.loose)
		}
	}
}

func TestSpacedAndLooseAtInvalidTokens(t *testing.T) {
	valid := []impl.Token{name("a", 0), sign("-", 0), sign("-", 0), text("x", 0)}
	for _, bad := range invalidTokens() {
		lists := [][]impl.Token{{bad}, {bad, bad}}
		for i := range len(valid) + 1 {
			lists = append(lists, slices.Insert(slices.Clone(valid), i, bad))
		}
		for _, list := range lists {
			if s, l := impl.Spaced(list), impl.Loose(list); s != "" || l != "" {
				t.Errorf("Spaced(%#v) = %q and Loose is %q, want \"\"", list, s, l)
			}
		}
	}
}

// checkSize checks that text, of the given list, has size bytes and is lexed to the list, or that it is "" if size exceeds MaxSource.
func checkSize(t *testing.T, text string, list []impl.Token, size int) {
	t.Helper()
	switch {
	case size > 2000 && text != "":
		t.Errorf("%d tokens have a text of %d bytes, want none", len(list), len(text))
	case size <= 2000 && (len(text) != size || !isLexedTo(text, list)):
		t.Errorf("%d tokens have the text %q of %d bytes, want %d", len(list), text, len(text), size)
	}
}

func TestSpacedAtMaxSource(t *testing.T) {
	signs2000 := slices.Repeat([]impl.Token{sign("(", 0)}, 2000)
	checkSize(t, impl.Spaced(signs2000), signs2000, 2000)
	for _, last := range []impl.Token{sign("(", 0), name("a", 0), num("7", 0)} {
		checkSize(t, impl.Spaced(append(slices.Clip(signs2000), last)), nil, 2001)
		checkSize(t, impl.Spaced(slices.Insert(slices.Clip(signs2000), 0, last)), nil, 2001)
	}
	words := slices.Repeat([]impl.Token{name("a", 0)}, 1000)
	checkSize(t, impl.Spaced(words), words, 1999)
	for _, c := range []struct {
		last impl.Token
		size int
	}{{sign("(", 0), 2000}, {sign("||", 0), 2001}, {name("a", 0), 2001}, {text("", 0), 2001}} {
		list := append(slices.Clip(words), c.last)
		checkSize(t, impl.Spaced(list), list, c.size)
	}
	words[500] = name("ab", 0)
	checkSize(t, impl.Spaced(words), words, 2000)
	words[999] = name("ab", 0)
	checkSize(t, impl.Spaced(words), words, 2001)
	// 24 strings of 82 bytes with gaps between them, and the rest.
	quotes := slices.Repeat([]impl.Token{text(strings.Repeat("'", 40), 0)}, 24)
	checkSize(t, impl.Spaced(quotes), quotes, 1991)
	exact := append(slices.Clip(quotes), text("123456", 0))
	checkSize(t, impl.Spaced(exact), exact, 2000)
	checkSize(t, impl.Spaced(append(slices.Clip(quotes), text("1234567", 0))), nil, 2001)
	checkSize(t, impl.Spaced(slices.Repeat(edges, 100000)), nil, 2001)
}

func TestLooseAtMaxSource(t *testing.T) {
	list := slices.Repeat([]impl.Token{sign("(", 0)}, 1000)
	checkSize(t, impl.Loose(list), list, 1999)
	checkSize(t, impl.Loose(append(slices.Clip(list), sign("(", 0))), nil, 2001)
	list[0] = sign("<>", 0)
	checkSize(t, impl.Loose(list), list, 2000)
	list[999] = name("ab", 0)
	checkSize(t, impl.Loose(list), list, 2001)
	list[0] = sign("(", 0)
	checkSize(t, impl.Loose(list), list, 2000)
	list[999] = num("123", 0)
	checkSize(t, impl.Loose(list), list, 2001)
	quotes := slices.Repeat([]impl.Token{text(strings.Repeat("'", 40), 0)}, 24)
	exact := append(slices.Clip(quotes), name("a b c!", 0))
	checkSize(t, impl.Loose(exact), exact, 2000)
	checkSize(t, impl.Loose(append(slices.Clip(quotes), name("a b c!?", 0))), nil, 2001)
	checkSize(t, impl.Loose(slices.Repeat(edges, 100000)), nil, 2001)
}

// gapsOf returns the offsets of the spaces of s that are outside of quotes.
func gapsOf(s string) []int {
	var list []int
	inside := byte(0)
	for i := range len(s) {
		switch b := s[i]; {
		case inside != 0 && b == inside:
			inside = 0
		case inside == 0 && (b == '"' || b == '\''):
			inside = b
		case inside == 0 && b == ' ':
			list = append(list, i)
		}
	}
	return list
}

// checkSpaced checks promise 4 for the valid tokens of list, whose texts are not too long.
func checkSpaced(t *testing.T, list []impl.Token) {
	t.Helper()
	spaced, loose := impl.Spaced(list), impl.Loose(list)
	if !isLexedTo(spaced, list) || !isLexedTo(loose, list) {
		t.Errorf("Spaced(%v) = %q and Loose is %q", list, spaced, loose)
		return
	}
	for _, i := range gapsOf(spaced) {
		if s := spaced[:i] + spaced[i+1:]; isLexedTo(s, list) {
			t.Errorf("Spaced(%v) = %q has a space at %d that is not required", list, spaced, i)
		}
	}
	if got := len(gapsOf(loose)); got != max(0, len(list)-1) {
		t.Errorf("Loose(%v) = %q has %d spaces between the tokens", list, loose, got)
	}
	if plain := strings.Join(texts(list), ""); len(plain)+len(gapsOf(spaced)) != len(spaced) {
		t.Errorf("Spaced(%v) = %q is longer than its tokens and spaces", list, spaced)
	}
	if want := strings.Join(texts(list), " "); loose != want {
		t.Errorf("Loose(%v) = %q, want %q", list, loose, want)
	}
	if got, bad := impl.Squeeze(loose); got != spaced || bad != -1 {
		t.Errorf("Squeeze(%q) = %q, %d, want %q, -1", loose, got, bad, spaced)
	}
}

// texts returns the TokenText of each token.
func texts(list []impl.Token) []string {
	var out []string
	for _, token := range list {
		out = append(out, impl.TokenText(token))
	}
	return out
}

func TestSpacedIsLexedToTheSameTokens(t *testing.T) {
	checkSpaced(t, nil)
	some := append(slices.Clone(edges), key("IN", 0), num("0", 0), name("from", 0), name("\" ", 0), name("-- '", 0), text("", 0), text("' ' ", 0), text("/* \"", 0))
	for _, s := range []string{"-", "/", "*", "<", ">", "=", ">=", "||", "."} {
		some = append(some, sign(s, 0))
	}
	for _, a := range some {
		checkSpaced(t, []impl.Token{a})
		for _, b := range some {
			for _, c := range some {
				checkSpaced(t, []impl.Token{a, b, c})
			}
		}
	}
}

func TestSpacedAtPairsAndLongLists(t *testing.T) {
	list := validTokens()
	for _, a := range list {
		for _, b := range list {
			checkSpaced(t, []impl.Token{a, b})
		}
	}
	random := rand.New(rand.NewSource(4))
	for range 500 {
		var long []impl.Token
		for range random.Intn(20) {
			long = append(long, list[random.Intn(len(list))])
		}
		checkSpaced(t, long)
	}
}

func TestSqueeze(t *testing.T) {
	for _, c := range []struct{ s, want string }{
		{"", ""},
		{" \t\n\r", ""},
		{"--", ""},
		{"-- a 'b", ""},
		{"/**/", ""},
		{" /* a 'b */ -- c\n", ""},
		{"a", "a"},
		{"\r\n\t a\t", "a"},
		{"a  b\tc\nd\re \t\n\r f", "a b c d e f"},
		{"a + b\t*\nc\r%\r\nd", "a+b*c%d"},
		{"a--b\nc", "a c"},
		{"a/*b*/c", "a c"},
		{"1/**/2", "1 2"},
		{"- -- x\n -", "- -"},
		{"-/**/-/**/1", "- -1"},
		{"/ /* x */ *", "/ *"},
		{"</**/= > /**/ = < > < < = >", "< => =< ><< =>"},
		{"< <> <= >= || ||", "<<><=>=||||"},
		{"select Distinct a fRoM t wHere nOt b iS nUlL", "SELECT DISTINCT a FROM t WHERE NOT b IS NULL"},
		{"Select from", "SELECT FROM"},
		{"selects", "selects"},
		{"\"a\"", "a"},
		{"\"a\" \"b\"", "a b"},
		{"\"a\"\"b\"", "\"a\"\"b\""},
		{"1\"a\"2", "1 a 2"},
		{"\"from\" from", "\"from\"FROM"},
		{"\"Select\"\t\"x y\"", "\"Select\" \"x y\""},
		{"a \"b  c\" d", "a\"b  c\"d"},
		{"'  ' || '\t\n'", "'  '||'\t\n'"},
		{"'a'  'b'", "'a' 'b'"},
		{"'a'/*c*/'b'", "'a' 'b'"},
		{"'it''s' \"it's\"", "'it''s'\"it's\""},
		{"'--' - '/*' \"--\" \"/*\" '*/'", "'--'-'/*'\"--\" \"/*\"'*/'"},
		{"'-- x' \n", "'-- x'"},
		{"'select' select 'select'", "'select'SELECT'select'"},
		{"( a . \"B\" , t . * )", "(a.B,t.*)"},
		{"a\n--'\n'b'", "a'b'"},
		{"\"\xff \" \x09'\x00'", "\"\xff \"'\x00'"},
	} {
		for _, s := range []string{c.s, c.want} {
			if got, bad := impl.Squeeze(s); got != c.want || bad != -1 {
				t.Errorf("Squeeze(%q) = %q, %d, want %q, -1", s, got, bad, c.want)
			}
		}
	}
}

func TestSqueezeFails(t *testing.T) {
	for _, c := range []struct {
		s  string
		at int
	}{
		{"?", 0},
		{"a |b", 2},
		{"a 'b", 2},
		{"a  b \"c", 5},
		{"a /* b", 2},
		{"/*/", 0},
		{"select 01", 7},
		{"1x 'a", 0},
		{"a,\"\"", 2},
		{"-- ?\n \x80", 6},
		{"'" + strings.Repeat("x", 41) + "'", 0},
		{"a " + strings.Repeat("b", 21), 2},
		{strings.Repeat(" ", 1999) + "!", 1999},
		{strings.Repeat(" ", 2001), 2000},
		{"?" + strings.Repeat("a ", 1000), 2000},
	} {
		if got, bad := impl.Squeeze(c.s); got != "" || bad != c.at {
			t.Errorf("Squeeze(%q) = %q, %d, want \"\", %d", c.s, got, bad, c.at)
		}
	}
}

func TestSqueezeLongSources(t *testing.T) {
	for _, c := range []struct{ s, want string }{
		{strings.Repeat(" ", 2000), ""},
		{strings.Repeat("(", 2000), strings.Repeat("(", 2000)},
		{strings.Repeat("a ", 1000), strings.Repeat("a ", 999) + "a"},
		{strings.Repeat("a ", 998) + "aa b", strings.Repeat("a ", 998) + "aa b"},
		{strings.Repeat("''\t", 666) + "()", strings.Repeat("'' ", 665) + "''()"},
		{strings.Repeat("1\"a\"", 500), strings.Repeat("1 a ", 499) + "1 a"},
	} {
		if got, bad := impl.Squeeze(c.s); got != c.want || bad != -1 {
			t.Errorf("Squeeze(%q) = %q, %d, want %q, -1", c.s, got, bad, c.want)
		}
	}
}

func TestSqueezeShortSources(t *testing.T) {
	check := func(s string) {
		got, bad := impl.Squeeze(s)
		list, at := lexByRules(s)
		if bad != at || len(got) > len(s) || bad >= 0 && got != "" {
			t.Errorf("Squeeze(%q) = %q, %d, want the offset %d", s, got, bad, at)
			return
		}
		if bad >= 0 {
			return
		}
		if !isLexedTo(got, list) {
			t.Errorf("Squeeze(%q) = %q, which has other tokens", s, got)
		}
		for _, i := range gapsOf(got) {
			if isLexedTo(got[:i]+got[i+1:], list) {
				t.Errorf("Squeeze(%q) = %q has a space at %d that is not required", s, got, i)
			}
		}
		if again, bad := impl.Squeeze(got); again != got || bad != -1 {
			t.Errorf("Squeeze(%q) = %q, %d, but it is squeezed already", got, again, bad)
		}
	}
	stringsOver("'a \"", 6, check)
	stringsOver("/*-\n ", 5, check)
	stringsOver("<>=- |", 5, check)
	stringsOver("on1'\"(.*-/<=> \n?\xff", 3, check)
}

func TestSpacingChangesNothing(t *testing.T) {
	list := []impl.Token{key("SELECT", 3), name("a", 1), sign("-", -4), sign("-", 9), text("x", 0), {Kind: 9}}
	want := slices.Clone(list)
	first := impl.Spaced(list[:5])
	impl.Loose(list[:3])
	impl.Spaced(list)
	impl.Loose(list)
	impl.NeedsGap(list[2], list[3])
	if !slices.Equal(list, want) {
		t.Errorf("spacing changed its argument to %v", list)
	}
	if second := impl.Spaced(list[:5]); first != "SELECT a- -'x'" || second != first {
		t.Errorf("two calls of Spaced return %q and %q", first, second)
	}
}
