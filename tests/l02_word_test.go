package tests

import (
	"math"
	"regexp"
	"strings"
	"testing"

	"loop.example/g00495/impl"
)

// keyNumbers lists the keywords of the specification with their numbers and the constants' values.
var keyNumbers = []struct {
	text            string
	number, defined int
}{
	{"SELECT", 1, impl.KwSelect},
	{"DISTINCT", 2, impl.KwDistinct},
	{"FROM", 3, impl.KwFrom},
	{"JOIN", 4, impl.KwJoin},
	{"ON", 5, impl.KwOn},
	{"WHERE", 6, impl.KwWhere},
	{"ORDER", 7, impl.KwOrder},
	{"BY", 8, impl.KwBy},
	{"ASC", 9, impl.KwAsc},
	{"DESC", 10, impl.KwDesc},
	{"LIMIT", 11, impl.KwLimit},
	{"AS", 12, impl.KwAs},
	{"AND", 13, impl.KwAnd},
	{"OR", 14, impl.KwOr},
	{"NOT", 15, impl.KwNot},
	{"IS", 16, impl.KwIs},
	{"IN", 17, impl.KwIn},
	{"BETWEEN", 18, impl.KwBetween},
	{"EXISTS", 19, impl.KwExists},
	{"NULL", 20, impl.KwNull},
	{"TRUE", 21, impl.KwTrue},
	{"FALSE", 22, impl.KwFalse},
	{"INSERT", 23, impl.KwInsert},
	{"INTO", 24, impl.KwInto},
	{"VALUES", 25, impl.KwValues},
	{"UPDATE", 26, impl.KwUpdate},
	{"SET", 27, impl.KwSet},
	{"DELETE", 28, impl.KwDelete},
}

// isKeyword reports whether s is a keyword in any case, without a use of the program.
func isKeyword(s string) bool {
	for _, k := range keyNumbers {
		if asciiUpper(s) == k.text {
			return true
		}
	}
	return false
}

func asciiUpper(s string) string {
	list := []byte(s)
	for i, b := range list {
		if strings.IndexByte("abcdefghijklmnopqrstuvwxyz", b) >= 0 {
			list[i] = b - 32
		}
	}
	return string(list)
}

// caseForms calls visit with every form of s that differs in the case of its letters only.
func caseForms(s string, visit func(string)) {
	upper, lower := strings.ToUpper(s), strings.ToLower(s)
	for mask := range 1 << len(s) {
		list := []byte(upper)
		for i := range list {
			if mask>>i&1 == 1 {
				list[i] = lower[i]
			}
		}
		visit(string(list))
	}
}

// oneByteOff calls visit with s without one of its bytes, and with one byte more at every place.
func oneByteOff(s string, visit func(string)) {
	for i := range len(s) {
		visit(s[:i] + s[i+1:])
	}
	for i := range len(s) + 1 {
		for b := range 256 {
			visit(s[:i] + stringOfBytes(byte(b)) + s[i:])
		}
	}
}

// stringOfBytes returns the string of the bytes of list.
func stringOfBytes(list ...byte) string { return string(list) }

func TestFold(t *testing.T) {
	for _, c := range []struct{ s, want string }{
		{"", ""},
		{"abcdefghijklmnopqrstuvwxyz", "ABCDEFGHIJKLMNOPQRSTUVWXYZ"},
		{"ABCDEFGHIJKLMNOPQRSTUVWXYZ", "ABCDEFGHIJKLMNOPQRSTUVWXYZ"},
		{"aZ_z0A9", "AZ_Z0A9"},
		{"0123456789", "0123456789"},
		{"`{@[~|\x00\x7f\n '\"", "`{@[~|\x00\x7f\n '\""},
		{"a\xe9b\xc3\xa9c", "A\xe9B\xc3\xa9C"},
		{"ſıéß", "ſıéß"},
		{"\xffa\x80z\xfe", "\xffA\x80Z\xfe"},
	} {
		if got := impl.Fold(c.s); got != c.want {
			t.Errorf("Fold(%q) = %q, want %q", c.s, got, c.want)
		}
	}
	for b := range 256 {
		s := stringOfBytes(byte(b))
		for _, x := range []string{s, "a" + s, s + "a", s + s, "q" + s + "Q"} {
			if got, want := impl.Fold(x), asciiUpper(x); got != want {
				t.Errorf("Fold(%q) = %q, want %q", x, got, want)
			}
		}
	}
}

func TestKeyOfKeywords(t *testing.T) {
	if len(keyNumbers) != 28 {
		t.Fatalf("%d keywords are listed", len(keyNumbers))
	}
	for _, k := range keyNumbers {
		if k.defined != k.number {
			t.Errorf("the constant of %s is %d, want %d", k.text, k.defined, k.number)
		}
		caseForms(k.text, func(s string) {
			if got := impl.KeyOf(s); got != k.number {
				t.Errorf("KeyOf(%q) = %d, want %d", s, got, k.number)
			}
		})
	}
}

func TestKeyOfOthers(t *testing.T) {
	list := []string{
		"", " ", "_", "0", "x", "table", "GROUP", "KW", "KwSelect", "SELECT FROM", "SELECT,", "1", "-1", "?",
		"ſelect", "ın", "iſ", "ＳＥＬＥＣＴ", "\x00", "\xff", "\"SELECT\"", "'FROM'", strings.Repeat("SELECT", 1000),
	}
	for _, k := range keyNumbers {
		oneByteOff(k.text, func(s string) { list = append(list, s) })
		oneByteOff(strings.ToLower(k.text), func(s string) { list = append(list, s) })
	}
	for _, s := range list {
		if got := impl.KeyOf(s); got != 0 && !isKeyword(s) {
			t.Errorf("KeyOf(%q) = %d, want 0", s, got)
		}
	}
}

func TestKeyText(t *testing.T) {
	for _, k := range keyNumbers {
		if got := impl.KeyText(k.number); got != k.text {
			t.Errorf("KeyText(%d) = %q, want %q", k.number, got, k.text)
		}
		if got := impl.KeyOf(impl.KeyText(k.number)); got != k.number {
			t.Errorf("KeyOf(KeyText(%d)) = %d", k.number, got)
		}
	}
	for _, k := range []int{0, -1, -2, -27, -28, -29, 29, 30, 31, 32, 56, 100, 255, 256, 257, 1<<32 + 1, math.MaxInt, math.MinInt, math.MinInt + 1} {
		if got := impl.KeyText(k); got != "" {
			t.Errorf("KeyText(%d) = %q, want \"\"", k, got)
		}
	}
}

func TestNameOk(t *testing.T) {
	if impl.MaxName != 20 {
		t.Errorf("MaxName = %d, want 20", impl.MaxName)
	}
	for _, b := range []string{"a", "Z", "_", "7", " ", "\"", "'", "\x00", "\n", "\x80", "\xff"} {
		for size := range 2*impl.MaxName + 2 {
			s := strings.Repeat(b, size)
			if got, want := impl.NameOk(s), size >= 1 && size <= 20; got != want {
				t.Errorf("NameOk(%q), which has %d bytes, = %v, want %v", s, size, got, want)
			}
		}
	}
	if !impl.NameOk("select") || !impl.NameOk(strings.Repeat("é", 10)) || impl.NameOk(strings.Repeat("é", 11)) {
		t.Error("NameOk at a keyword, or at letters of two bytes each")
	}
	if impl.NameOk(strings.Repeat("a", 256)) || impl.NameOk(strings.Repeat("a", 257)) || impl.NameOk(strings.Repeat("a", 100000)) {
		t.Error("NameOk accepts a name that is much too long")
	}
}

func TestPlainNameAccepts(t *testing.T) {
	for _, s := range []string{
		"a", "z", "A", "Z", "_", "__", "_0", "a0", "z9", "Ab_9", "x1y2", "selects", "selec", "_select", "select1", "fro_m", "table", "e1",
		"abcdefghijklmnopqrst", "uvwxyzABCDEFGHIJKLMN", "OPQRSTUVWXYZ_0123456", "_7890123456789012345",
	} {
		if !impl.PlainName(s) {
			t.Errorf("PlainName(%q) = false, want true", s)
		}
	}
}

func TestPlainNameRejects(t *testing.T) {
	for _, s := range []string{
		"", "0", "9", "0a", "1_", "9z", "00", "a b", " a", "a ", " ", "a-b", "a.b", "a\"b", "\"a\"", "'a'", "a\n", "a\x00", "\x00",
		"é", "aé", "éa", "a\xe9", "\xe9", "\x80", "\xff", "a\x80", "\xffa", "ａ", "a１", "ſelect", "ª",
		"abcdefghijklmnopqrstu", "_____________________", strings.Repeat("a", 1000),
		"abcdefghijklmnopqrs ", " bcdefghijklmnopqrst", "0bcdefghijklmnopqrst", "abcdefghijklmnopqrs\xff",
	} {
		if impl.PlainName(s) {
			t.Errorf("PlainName(%q) = true, want false", s)
		}
	}
}

func TestNoPlainNameIsKeyword(t *testing.T) {
	for _, k := range keyNumbers {
		caseForms(k.text, func(s string) {
			if impl.PlainName(s) || !impl.NameOk(s) {
				t.Errorf("PlainName(%q) = %v, NameOk(%q) = %v", s, impl.PlainName(s), s, impl.NameOk(s))
			}
			if got, want := impl.NameText(s), "\""+s+"\""; got != want {
				t.Errorf("NameText(%q) = %q, want %q", s, got, want)
			}
		})
		oneByteOff(k.text, func(s string) { checkPlain(t, s) })
	}
}

// checkPlain compares PlainName and NameText at s with the specification.
func checkPlain(t *testing.T, s string) {
	t.Helper()
	plain := plainShape.MatchString(s) && len(s) <= 20 && !isKeyword(s)
	if got := impl.PlainName(s); got != plain {
		t.Errorf("PlainName(%q) = %v, want %v", s, got, plain)
	}
	want := "\"" + strings.Join(strings.Split(s, "\""), "\"\"") + "\""
	if plain {
		want = s
	} else if s == "" || len(s) > 20 {
		want = ""
	}
	if got := impl.NameText(s); got != want {
		t.Errorf("NameText(%q) = %q, want %q", s, got, want)
	}
}

var plainShape = regexp.MustCompile(`\A[A-Za-z_][A-Za-z0-9_]*\z`)

func TestPlainNameAtEveryByte(t *testing.T) {
	for b := range 256 {
		s := stringOfBytes(byte(b))
		for _, x := range []string{s, s + "a", "a" + s, "a" + s + "b", s + s, "_" + s, strings.Repeat("x", 19) + s, s + strings.Repeat("x", 19), strings.Repeat("x", 20) + s} {
			checkPlain(t, x)
		}
	}
	stringsOver("oOnN_1\" \xff", 4, func(s string) { checkPlain(t, s) })
}

func TestNameText(t *testing.T) {
	a20, a21 := strings.Repeat("a", 20), strings.Repeat("a", 21)
	q20, q21 := strings.Repeat("\"", 20), strings.Repeat("\"", 21)
	for _, c := range []struct{ s, want string }{
		{"", ""},
		{"a", "a"},
		{"Ab_9", "Ab_9"},
		{a20, a20},
		{a21, ""},
		{q20, "\"" + q20 + q20 + "\""},
		{q21, ""},
		{a20 + "\"", ""},
		{a20[1:] + "\"", "\"" + a20[1:] + "\"\"\""},
		{"select", "\"select\""},
		{"In", "\"In\""},
		{"BETWEEN", "\"BETWEEN\""},
		{"1a", "\"1a\""},
		{"a b", "\"a b\""},
		{"\"ab", "\"\"\"ab\""},
		{"a\"b", "\"a\"\"b\""},
		{"ab\"", "\"ab\"\"\""},
		{"\"", "\"\"\"\""},
		{"\"\"", "\"\"\"\"\"\""},
		{"\"a\"b\"", "\"\"\"a\"\"b\"\"\""},
		{"it's", "\"it's\""},
		{"a\\b", "\"a\\b\""},
		{"\x00\n\t", "\"\x00\n\t\""},
		{"\x80\xff\xc3", "\"\x80\xff\xc3\""},
		{"é\"\xe9", "\"é\"\"\xe9\""},
		{strings.Repeat("\xff", 20), "\"" + strings.Repeat("\xff", 20) + "\""},
		{strings.Repeat("\xff", 21), ""},
		{strings.Repeat(" ", 21), ""},
	} {
		if got := impl.NameText(c.s); got != c.want {
			t.Errorf("NameText(%q) = %q, want %q", c.s, got, c.want)
		}
	}
}

func TestQuoteText(t *testing.T) {
	for _, c := range []struct{ s, want string }{
		{"", "''"},
		{"a", "'a'"},
		{"SELECT", "'SELECT'"},
		{"'ab", "'''ab'"},
		{"a'b", "'a''b'"},
		{"ab'", "'ab'''"},
		{"'", "''''"},
		{"''", "''''''"},
		{"'a'b'", "'''a''b'''"},
		{"say \"x\"", "'say \"x\"'"},
		{"a\\'b", "'a\\''b'"},
		{"\x00\n\r\t ", "'\x00\n\r\t '"},
		{"\x80\xff\xc3", "'\x80\xff\xc3'"},
		{"é'\xe9", "'é''\xe9'"},
		{strings.Repeat("a", 1000), "'" + strings.Repeat("a", 1000) + "'"},
		{strings.Repeat("'", 1000), "'" + strings.Repeat("'", 2000) + "'"},
	} {
		if got := impl.QuoteText(c.s); got != c.want {
			t.Errorf("QuoteText(%q) = %q, want %q", c.s, got, c.want)
		}
	}
}

// unquoted returns what s encloses in quote, and false if s is not one quoted string.
func unquoted(s, quote string) (string, bool) {
	if len(s) < 2 || s[:1] != quote || s[len(s)-1:] != quote {
		return "", false
	}
	inner := strings.ReplaceAll(s[1:len(s)-1], quote+quote, "")
	return strings.ReplaceAll(s[1:len(s)-1], quote+quote, quote), !strings.Contains(inner, quote)
}

func TestQuotedBytesCanBeReadBack(t *testing.T) {
	check := func(s string) {
		if got, ok := unquoted(impl.QuoteText(s), "'"); !ok || got != s {
			t.Errorf("QuoteText(%q) = %q", s, impl.QuoteText(s))
		}
		if !impl.NameOk(s) || impl.PlainName(s) {
			return
		}
		if got, ok := unquoted(impl.NameText(s), "\""); !ok || got != s {
			t.Errorf("NameText(%q) = %q", s, impl.NameText(s))
		}
	}
	stringsOver("'\"a\x00\x80\xff", 5, check)
	for b := range 256 {
		for c := range 256 {
			check(stringOfBytes(byte(b), byte(c)))
		}
	}
}
