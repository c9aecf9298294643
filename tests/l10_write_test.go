package tests

import (
	"math"
	"math/rand"
	"reflect"
	"runtime/debug"
	"slices"
	"strconv"
	"strings"
	"testing"

	"loop.example/g00495/impl"
)

// tokensIn returns the tokens of s without their offsets.
func tokensIn(t *testing.T, s string) []impl.Token {
	t.Helper()
	list, bad := impl.Lex(s)
	if bad >= 0 {
		t.Fatalf("there is no token at %d of %q", bad, s)
	}
	for i := range list {
		list[i].At = 0
	}
	return list
}

// checkTokens expects the tokens of the text want, all with the offset 0.
func checkTokens(t *testing.T, e impl.Expr, want string) {
	t.Helper()
	if got := impl.ExprTokens(e); !slices.Equal(got, tokensIn(t, want)) {
		t.Errorf("ExprTokens is %q %v, want %q at %s", impl.Loose(got), got, want, described(e))
	}
}

func checkQueryTokens(t *testing.T, q impl.Query, want string) {
	t.Helper()
	if got := impl.QueryTokens(q); !slices.Equal(got, tokensIn(t, want)) {
		t.Errorf("QueryTokens is %q %v, want %q at %s", impl.Loose(got), got, want, described(q))
	}
	checkTokens(t, exists(q), "EXISTS ( "+want+" )")
	checkTokens(t, inSub(true, column("", "z"), q), "z NOT IN ( "+want+" )")
}

func checkFull(t *testing.T, e impl.Expr, want string) {
	t.Helper()
	if got := impl.FullText(e); got != want {
		t.Errorf("FullText is %q, want %q at %s", got, want, described(e))
	}
}

// checkTexts expects the spaced text short with as few parentheses as possible, and full with all of them.
func checkTexts(t *testing.T, e impl.Expr, short, full string) {
	t.Helper()
	if got := impl.ExprText(e); got != short {
		t.Errorf("ExprText is %q, want %q at %s", got, short, described(e))
	}
	checkFull(t, e, full)
}

// checkUnwritten expects no tokens and no text, since e or q is not valid.
func checkUnwritten(t *testing.T, e impl.Expr) {
	t.Helper()
	if list := impl.ExprTokens(e); list != nil {
		t.Errorf("ExprTokens is %v at %s", list, described(e))
	}
	checkTexts(t, e, "", "")
}

func checkUnwrittenQuery(t *testing.T, q impl.Query) {
	t.Helper()
	if list := impl.QueryTokens(q); list != nil {
		t.Errorf("QueryTokens is %v at %s", list, described(q))
	}
}

// The rules of the document, sentence by sentence.

// scribe collects the tokens of a tree. A Kid is written in parentheses if paren is true for it.
type scribe struct {
	list  []impl.Token
	paren func(e impl.Expr, k int) bool
}

func fullByRules(e impl.Expr, k int) bool { return levelByRules(e.Kids[k]) != 9 }

func (s *scribe) put(list ...impl.Token) { s.list = append(s.list, list...) }

func (s *scribe) keys(words ...string) {
	for _, word := range words {
		s.put(key(word, 0))
	}
}

func (s *scribe) keyIf(on bool, word string) {
	if on {
		s.keys(word)
	}
}

func (s *scribe) kid(e impl.Expr, k int) {
	if s.paren(e, k) {
		s.put(sign("(", 0))
	}
	s.expr(e.Kids[k])
	if s.paren(e, k) {
		s.put(sign(")", 0))
	}
}

func (s *scribe) sub(q impl.Query) {
	s.put(sign("(", 0))
	s.query(q)
	s.put(sign(")", 0))
}

func (s *scribe) comma(i int) {
	if i > 0 {
		s.put(sign(",", 0))
	}
}

func (s *scribe) qualified(qual string, t impl.Token) {
	if qual != "" {
		s.put(name(qual, 0), sign(".", 0))
	}
	s.put(t)
}

func (s *scribe) expr(e impl.Expr) {
	switch e.Kind {
	case impl.ExLit:
		s.put([]impl.Token{key("NULL", 0), num(strconv.Itoa(e.Value.Num), 0), text(e.Value.Text, 0), key([]string{"FALSE", "TRUE"}[e.Value.Num&1], 0)}[e.Value.Kind])
		return
	case impl.ExCol:
		s.qualified(e.Qual, name(e.Name, 0))
		return
	case impl.ExExists:
		s.keys("EXISTS")
		s.sub(e.Sub[0])
		return
	case impl.ExUn:
		s.put(map[int]impl.Token{15: key("NOT", 0), 16: sign("-", 0)}[e.Op])
		s.kid(e, 0)
		return
	}
	s.kid(e, 0)
	s.keyIf(e.Not && e.Kind != impl.ExIs, "NOT")
	switch e.Kind {
	case impl.ExBin:
		s.put([]impl.Token{{}, key("OR", 0), key("AND", 0), sign("=", 0), sign("<>", 0), sign("<", 0), sign("<=", 0), sign(">", 0), sign(">=", 0),
			sign("||", 0), sign("+", 0), sign("-", 0), sign("*", 0), sign("/", 0), sign("%", 0)}[e.Op])
		s.kid(e, 1)
	case impl.ExIs:
		s.keys("IS")
		s.keyIf(e.Not, "NOT")
		s.keys("NULL")
	case impl.ExBetween:
		s.keys("BETWEEN")
		s.kid(e, 1)
		s.keys("AND")
		s.kid(e, 2)
	case impl.ExIn:
		s.keys("IN")
		s.put(sign("(", 0))
		for k := 1; k < len(e.Kids); k++ {
			s.comma(k - 1)
			s.kid(e, k)
		}
		s.put(sign(")", 0))
	case impl.ExInSub:
		s.keys("IN")
		s.sub(e.Sub[0])
	}
}

func (s *scribe) query(q impl.Query) {
	s.keys("SELECT")
	s.keyIf(q.Distinct, "DISTINCT")
	for i, x := range q.Items {
		s.comma(i)
		if x.Star {
			s.qualified(x.Qual, sign("*", 0))
		} else {
			s.expr(x.Expr)
		}
		s.alias(x.As)
	}
	s.keys("FROM")
	for i, x := range q.From {
		if len(x.On) > 0 {
			s.keys("JOIN")
		} else {
			s.comma(i)
		}
		s.put(name(x.Table, 0))
		s.alias(x.As)
		s.first("ON", x.On)
	}
	s.first("WHERE", q.Where)
	for i, k := range q.Order {
		if i == 0 {
			s.keys("ORDER", "BY")
		}
		s.comma(i)
		s.expr(k.Expr)
		s.keyIf(k.Desc, "DESC")
	}
	if q.Limit != -1 {
		s.put(key("LIMIT", 0), num(strconv.Itoa(q.Limit), 0))
	}
}

func (s *scribe) alias(as string) {
	if as != "" {
		s.put(key("AS", 0), name(as, 0))
	}
}

func (s *scribe) first(word string, list []impl.Expr) {
	if len(list) > 0 {
		s.keys(word)
		s.expr(list[0])
	}
}

func tokensByRules(e impl.Expr, paren func(e impl.Expr, k int) bool) []impl.Token {
	s := scribe{paren: paren}
	s.expr(e)
	return s.list
}

func queryTokensByRules(q impl.Query) []impl.Token {
	s := scribe{paren: wrappedByRules}
	s.query(q)
	return s.list
}

// scanner reads tokens by the grammar of chapter 12.
type scanner struct {
	list []impl.Token
	bad  bool
}

func (r *scanner) next() impl.Token {
	if len(r.list) == 0 {
		return impl.Token{}
	}
	return r.list[0]
}

func (r *scanner) skip() impl.Token {
	t := r.next()
	r.list = r.list[min(1, len(r.list)):]
	return t
}

func (r *scanner) is(kind int, texts ...string) bool {
	t := r.next()
	return t.Kind == kind && slices.Contains(texts, t.Text)
}

func (r *scanner) take(kind int, text string) bool {
	if !r.is(kind, text) {
		return false
	}
	r.skip()
	return true
}

func (r *scanner) key(word string) bool  { return r.take(impl.TkKey, word) }
func (r *scanner) sign(text string) bool { return r.take(impl.TkSign, text) }

func (r *scanner) must(ok bool) { r.bad = r.bad || !ok }

// text takes a token of this kind and returns its text.
func (r *scanner) text(kind int) string {
	r.must(r.next().Kind == kind && impl.TokenOk(r.next()))
	return r.skip().Text
}

// chained reads operands with these operators between them.
func (r *scanner) chained(kind int, operand func() impl.Expr, texts ...string) impl.Expr {
	e := operand()
	for r.is(kind, texts...) {
		op := slices.Index(operators, r.skip().Text) + 1
		e = applied(op, e, operand())
	}
	return e
}

func (r *scanner) or() impl.Expr   { return r.chained(impl.TkKey, r.and, "OR") }
func (r *scanner) and() impl.Expr  { return r.chained(impl.TkKey, r.not, "AND") }
func (r *scanner) cat() impl.Expr  { return r.chained(impl.TkSign, r.sum, "||") }
func (r *scanner) sum() impl.Expr  { return r.chained(impl.TkSign, r.prod, "+", "-") }
func (r *scanner) prod() impl.Expr { return r.chained(impl.TkSign, r.neg, "*", "/", "%") }

func (r *scanner) not() impl.Expr {
	if r.key("NOT") {
		return applied(impl.OpNot, r.not())
	}
	return r.cmp()
}

func (r *scanner) cmp() impl.Expr {
	e := r.cat()
	if r.is(impl.TkSign, "=", "<>", "<", "<=", ">", ">=") {
		op := slices.Index(operators, r.skip().Text) + 1
		return applied(op, e, r.cat())
	}
	if r.key("IS") {
		not := r.key("NOT")
		r.must(r.key("NULL"))
		return tested(impl.ExIs, not, e)
	}
	not := r.key("NOT")
	switch {
	case r.key("BETWEEN"):
		low := r.cat()
		r.must(r.key("AND"))
		return tested(impl.ExBetween, not, e, low, r.cat())
	case r.key("IN"):
		return r.in(not, e)
	}
	r.must(!not)
	return e
}

func (r *scanner) in(not bool, e impl.Expr) impl.Expr {
	r.must(r.sign("("))
	if r.is(impl.TkKey, "SELECT") {
		e = inSub(not, e, r.query())
	} else {
		kids := []impl.Expr{e, r.or()}
		for r.sign(",") {
			kids = append(kids, r.or())
		}
		e = tested(impl.ExIn, not, kids...)
	}
	r.must(r.sign(")"))
	return e
}

func (r *scanner) neg() impl.Expr {
	if r.sign("-") {
		return applied(impl.OpNeg, r.neg())
	}
	return r.prim()
}

func (r *scanner) prim() impl.Expr {
	switch t := r.next(); {
	case t.Kind == impl.TkName:
		first := r.text(impl.TkName)
		if r.sign(".") {
			return column(first, r.text(impl.TkName))
		}
		return column("", first)
	case t.Kind == impl.TkText:
		return lit(textOf(r.text(impl.TkText)))
	case r.key("NULL"):
		return lit(null)
	case r.key("TRUE"):
		return lit(yes)
	case r.key("FALSE"):
		return lit(no)
	case r.key("EXISTS"):
		r.must(r.sign("("))
		e := exists(r.query())
		r.must(r.sign(")"))
		return e
	case r.sign("("):
		e := r.or()
		r.must(r.sign(")"))
		return e
	}
	return lit(intOf(r.number()))
}

func (r *scanner) number() int {
	n, err := strconv.Atoi(r.text(impl.TkInt))
	r.must(err == nil)
	return n
}

func (r *scanner) query() impl.Query {
	r.must(r.key("SELECT"))
	q := impl.Query{Distinct: r.key("DISTINCT"), Limit: -1}
	q.Items = []impl.Item{r.item()}
	for r.sign(",") {
		q.Items = append(q.Items, r.item())
	}
	r.must(r.key("FROM"))
	q.From = []impl.Source{r.source()}
	for r.is(impl.TkSign, ",") || r.is(impl.TkKey, "JOIN") {
		joined := r.skip().Kind == impl.TkKey
		x := r.source()
		if joined {
			r.must(r.key("ON"))
			x.On = []impl.Expr{r.or()}
		}
		q.From = append(q.From, x)
	}
	if r.key("WHERE") {
		q.Where = []impl.Expr{r.or()}
	}
	if r.key("ORDER") {
		r.must(r.key("BY"))
		q.Order = []impl.SortKey{r.sortKey()}
		for r.sign(",") {
			q.Order = append(q.Order, r.sortKey())
		}
	}
	if r.key("LIMIT") {
		q.Limit = r.number()
	}
	return q
}

func (r *scanner) item() impl.Item {
	if r.sign("*") {
		return impl.Item{Star: true}
	}
	if len(r.list) > 2 && r.list[0].Kind == impl.TkName && r.list[1].Text == "." && r.list[2] == sign("*", 0) {
		qual := r.text(impl.TkName)
		r.list = r.list[2:]
		return impl.Item{Star: true, Qual: qual}
	}
	return impl.Item{Expr: r.or(), As: r.alias()}
}

func (r *scanner) source() impl.Source {
	return impl.Source{Table: r.text(impl.TkName), As: r.alias()}
}

func (r *scanner) alias() string {
	if r.key("AS") {
		return r.text(impl.TkName)
	}
	return ""
}

func (r *scanner) sortKey() impl.SortKey {
	x := impl.SortKey{Expr: r.or()}
	if x.Desc = r.key("DESC"); !x.Desc {
		r.key("ASC")
	}
	return x
}

func readTokens(list []impl.Token) (impl.Expr, bool) {
	r := scanner{list: list}
	e := r.or()
	return e, !r.bad && len(r.list) == 0
}

func readQueryTokens(list []impl.Token) (impl.Query, bool) {
	r := scanner{list: list}
	q := r.query()
	return q, !r.bad && len(r.list) == 0
}

// groupings returns the indices of the parentheses that open no list and no query.
func groupings(list []impl.Token) []int {
	var all []int
	for i, x := range list {
		if x == sign("(", 0) && (i == 0 || list[i-1] != key("IN", 0) && list[i-1] != key("EXISTS", 0)) {
			all = append(all, i)
		}
	}
	return all
}

// withoutPair returns list without the parenthesis at index open and the one that closes it.
func withoutPair(list []impl.Token, open int) []impl.Token {
	depth := 0
	for i := open; i < len(list); i++ {
		switch list[i] {
		case sign("(", 0):
			depth++
		case sign(")", 0):
			depth--
		}
		if depth == 0 {
			return slices.Concat(list[:open], list[open+1:i], list[i+1:])
		}
	}
	return nil
}

// checkReadBack checks that the tokens of e are those of the rules, and that the grammar reads e from them, but not without one of their pairs.
func checkReadBack(t *testing.T, e impl.Expr) {
	t.Helper()
	list := impl.ExprTokens(e)
	if !slices.Equal(list, tokensByRules(e, wrappedByRules)) {
		t.Errorf("the tokens %q are not those of the rules", impl.Loose(list))
	}
	if back, ok := readTokens(list); !ok || !sameByRules(back, e) {
		t.Errorf("%s is not read back from the tokens %q", described(e), impl.Loose(list))
	}
	pairs := groupings(list)
	if len(pairs) != impl.Wraps(e) || len(pairs) != wrapsByRules(e) {
		t.Errorf("there are %d pairs of grouping parentheses and %d wrapped Kids in %q", len(pairs), impl.Wraps(e), impl.Loose(list))
	}
	for _, open := range pairs {
		if back, ok := readTokens(withoutPair(list, open)); ok && sameByRules(back, e) {
			t.Errorf("the parenthesis at %d is not needed in %q", open, impl.Loose(list))
		}
	}
	checkTextsByRules(t, e)
}

// checkTextsByRules checks both texts of e. They are lexed to their tokens unless they are too long.
func checkTextsByRules(t *testing.T, e impl.Expr) {
	t.Helper()
	short, full := tokensByRules(e, wrappedByRules), tokensByRules(e, fullByRules)
	checkTexts(t, e, impl.Spaced(short), impl.Spaced(full))
	if s := impl.ExprText(e); s != "" && !slices.Equal(tokensIn(t, s), short) {
		t.Errorf("the tokens are not those of the text %q", s)
	}
	if s := impl.FullText(e); s != "" {
		if back, ok := readTokens(tokensIn(t, s)); !ok || !sameByRules(back, e) {
			t.Errorf("%s is not read back from %q", described(e), s)
		}
	}
}

func checkQueryReadBack(t *testing.T, q impl.Query) {
	t.Helper()
	list := impl.QueryTokens(q)
	if !slices.Equal(list, queryTokensByRules(q)) {
		t.Errorf("the tokens %q are not those of the rules", impl.Loose(list))
	}
	if back, ok := readQueryTokens(list); !ok || !sameByRules(back, q) {
		t.Errorf("%s is not read back from the tokens %q", described(q), impl.Loose(list))
	}
	if n := len(groupings(list)); n != impl.WrapsIn(q) {
		t.Errorf("there are %d pairs of grouping parentheses and %d wrapped Kids in %q", n, impl.WrapsIn(q), impl.Loose(list))
	}
	if whole := exists(q); impl.ExprOk(whole) {
		checkReadBack(t, whole)
	}
}

func TestWriteLiterals(t *testing.T) {
	rows := []struct {
		v    impl.Value
		want impl.Token
	}{
		{null, key("NULL", 0)}, {yes, key("TRUE", 0)}, {no, key("FALSE", 0)},
		{intOf(0), num("0", 0)}, {intOf(1), num("1", 0)}, {intOf(10), num("10", 0)}, {intOf(math.MaxInt), num("9223372036854775807", 0)},
		{textOf(""), text("", 0)}, {textOf("it's"), text("it's", 0)}, {textOf("'"), text("'", 0)}, {textOf("''"), text("''", 0)},
		{textOf("NULL"), text("NULL", 0)}, {textOf("\x00\n\xff\""), text("\x00\n\xff\"", 0)}, {textOf(long(40)), text(long(40), 0)},
	}
	for _, row := range rows {
		if got := impl.ExprTokens(lit(row.v)); !slices.Equal(got, []impl.Token{row.want}) {
			t.Errorf("the tokens of %v are %v", row.v, got)
		}
		checkTexts(t, lit(row.v), impl.ValueText(row.v), impl.ValueText(row.v))
		checkReadBack(t, lit(row.v))
	}
	for _, v := range []impl.Value{intOf(-1), intOf(math.MinInt), textOf(long(41)), value(0, 1, ""), value(3, 2, ""), value(4, 0, ""), value(1, 1, "a"), value(-1, 0, "")} {
		checkUnwritten(t, lit(v))
		checkUnwritten(t, applied(impl.OpNot, lit(v)))
	}
	checkTokens(t, lit(textOf("it's")), "'it''s'")
	checkTexts(t, lit(textOf("it's")), "'it''s'", "'it''s'")
	checkTexts(t, lit(textOf("")), "''", "''")
}

// oddNames lists valid names. Most of them need quotes.
func oddNames() []string {
	list := []string{"a", "_", "B_9", "select", "SELECT", "Not", "null", "t.b", "1a", "7", "x y", "\"", "a\"b", "*", "(", "'", "\x00", "\xff", long(20), strings.Repeat("\"", 20)}
	for _, k := range keyNumbers {
		list = append(list, k.text, strings.ToLower(k.text), k.text+"_")
	}
	return list
}

func TestWriteColumns(t *testing.T) {
	for _, s := range oddNames() {
		if got := impl.ExprTokens(column("", s)); !slices.Equal(got, []impl.Token{name(s, 0)}) {
			t.Errorf("the tokens of the column %q are %v", s, got)
		}
		checkTexts(t, column("", s), impl.NameText(s), impl.NameText(s))
		for _, qual := range oddNames() {
			e := column(qual, s)
			if got := impl.ExprTokens(e); !slices.Equal(got, []impl.Token{name(qual, 0), sign(".", 0), name(s, 0)}) {
				t.Errorf("the tokens of the column %q of %q are %v", s, qual, got)
			}
			want := impl.NameText(qual) + "." + impl.NameText(s)
			checkTexts(t, e, want, want)
			checkTexts(t, applied(impl.OpNeg, e), "-"+want, "-"+want)
		}
	}
	checkTexts(t, column("from", "a\"b"), `"from"."a""b"`, `"from"."a""b"`)
	for _, e := range []impl.Expr{column("", ""), column("a", ""), column("", long(21)), column(long(21), "a"), column("a", long(21))} {
		checkUnwritten(t, e)
	}
}

func TestWriteOperators(t *testing.T) {
	a, b := column("", "a"), column("", "b")
	for i, want := range operators[:14] {
		op, kind := i+1, impl.TkSign
		if op <= impl.OpAnd {
			kind = impl.TkKey
		}
		e := applied(op, a, b)
		if got := impl.ExprTokens(e); !slices.Equal(got, []impl.Token{name("a", 0), {Kind: kind, Text: want}, name("b", 0)}) {
			t.Errorf("the tokens of operator %d are %v", op, got)
		}
		checkReadBack(t, e)
	}
	checkTokens(t, applied(impl.OpNot, a), "NOT a")
	checkTokens(t, applied(impl.OpNeg, a), "- a")
	if got := impl.ExprTokens(applied(impl.OpNot, a)); !slices.Equal(got, []impl.Token{key("NOT", 0), name("a", 0)}) {
		t.Errorf("the tokens of NOT are %v", got)
	}
	checkTexts(t, applied(impl.OpOr, a, b), "a OR b", "a OR b")
	checkTexts(t, applied(impl.OpCat, a, b), "a||b", "a||b")
	checkTexts(t, applied(impl.OpNeg, applied(impl.OpNeg, a)), "- -a", "-(-a)")
	checkTexts(t, applied(impl.OpNot, applied(impl.OpNot, a)), "NOT NOT a", "NOT(NOT a)")
	for _, op := range append(edgeInts(), -1, 0, 17, 256+4) {
		if op < 1 || op > 14 {
			checkUnwritten(t, applied(op, a, b))
		}
		if op != 15 && op != 16 {
			checkUnwritten(t, applied(op, a))
		}
	}
}

func TestWriteTests(t *testing.T) {
	a, b, c := column("", "a"), column("t", "b"), lit(textOf("x"))
	rows := []struct {
		kind       int
		kids       []impl.Expr
		plain, not string
	}{
		{impl.ExIs, []impl.Expr{a}, "a IS NULL", "a IS NOT NULL"},
		{impl.ExIs, []impl.Expr{lit(null)}, "NULL IS NULL", "NULL IS NOT NULL"},
		{impl.ExBetween, []impl.Expr{a, b, c}, "a BETWEEN t.b AND 'x'", "a NOT BETWEEN t.b AND 'x'"},
		{impl.ExIn, []impl.Expr{a, b}, "a IN (t.b)", "a NOT IN (t.b)"},
		{impl.ExIn, []impl.Expr{a, b, c}, "a IN (t.b, 'x')", "a NOT IN (t.b, 'x')"},
		{impl.ExIn, repeated(a, 9), "a IN (a,a,a,a,a,a,a,a)", "a NOT IN (a,a,a,a,a,a,a,a)"},
	}
	for _, row := range rows {
		checkTokens(t, tested(row.kind, false, row.kids...), row.plain)
		checkTokens(t, tested(row.kind, true, row.kids...), row.not)
	}
	checkTokens(t, inSub(false, a, starred()), "a IN (SELECT * FROM t)")
	checkTokens(t, inSub(true, b, starred()), "t.b NOT IN (SELECT * FROM t)")
	checkTokens(t, exists(starred()), "EXISTS (SELECT * FROM t)")
	checkTexts(t, tested(impl.ExBetween, true, a, lit(intOf(1)), c), "a NOT BETWEEN 1 AND'x'", "a NOT BETWEEN 1 AND'x'")
	checkTexts(t, tested(impl.ExIn, true, c, c, a), "'x'NOT IN('x',a)", "'x'NOT IN('x',a)")
	checkTexts(t, exists(starred()), "EXISTS(SELECT*FROM t)", "EXISTS(SELECT*FROM t)")
	for _, not := range []bool{false, true} {
		for n := range 12 {
			for _, kind := range []int{impl.ExIs, impl.ExBetween, impl.ExIn} {
				e := tested(kind, not, repeated(a, n)...)
				if okByRules(e) {
					checkReadBack(t, e)
				} else {
					checkUnwritten(t, e)
				}
			}
		}
	}
}

// TestWriteParentheses has Kids that are just wrapped and Kids that just are not.
func TestWriteParentheses(t *testing.T) {
	a, b := column("", "a"), column("", "b")
	or, and, not := applied(impl.OpOr, a, b), applied(impl.OpAnd, a, b), applied(impl.OpNot, a)
	eq, is, cat := applied(impl.OpEq, a, b), tested(impl.ExIs, true, a), applied(impl.OpCat, a, b)
	add, mul, neg := applied(impl.OpAdd, a, b), applied(impl.OpMul, a, b), applied(impl.OpNeg, a)
	between, in, sub := tested(impl.ExBetween, false, a, b, a), tested(impl.ExIn, false, a, b), inSub(false, a, starred())
	rows := []struct {
		e    impl.Expr
		want string
	}{
		{applied(impl.OpOr, or, or), "a OR b OR (a OR b)"},
		{applied(impl.OpOr, and, and), "a AND b OR a AND b"},
		{applied(impl.OpAnd, or, or), "(a OR b) AND (a OR b)"},
		{applied(impl.OpAnd, and, and), "a AND b AND (a AND b)"},
		{applied(impl.OpAnd, not, not), "NOT a AND NOT a"},
		{applied(impl.OpAnd, between, between), "a BETWEEN b AND a AND a BETWEEN b AND a"},
		{applied(impl.OpNot, and), "NOT (a AND b)"},
		{applied(impl.OpNot, not), "NOT NOT a"},
		{applied(impl.OpNot, eq), "NOT a = b"},
		{applied(impl.OpNot, in), "NOT a IN (b)"},
		{applied(impl.OpEq, not, not), "(NOT a) = (NOT a)"},
		{applied(impl.OpEq, eq, eq), "(a = b) = (a = b)"},
		{applied(impl.OpLt, is, in), "(a IS NOT NULL) < (a IN (b))"},
		{applied(impl.OpGe, cat, cat), "a || b >= a || b"},
		{tested(impl.ExIs, false, is), "(a IS NOT NULL) IS NULL"},
		{tested(impl.ExIs, true, sub), "(a IN (SELECT * FROM t)) IS NOT NULL"},
		{tested(impl.ExIs, true, not), "(NOT a) IS NOT NULL"},
		{tested(impl.ExIs, false, cat), "a || b IS NULL"},
		{tested(impl.ExBetween, true, or, and, not), "(a OR b) NOT BETWEEN (a AND b) AND (NOT a)"},
		{tested(impl.ExBetween, false, cat, add, neg), "a || b BETWEEN a + b AND - a"},
		{tested(impl.ExIn, false, or, or, and, not, eq), "(a OR b) IN (a OR b, a AND b, NOT a, a = b)"},
		{tested(impl.ExIn, true, cat, in, sub), "a || b NOT IN (a IN (b), a IN (SELECT * FROM t))"},
		{inSub(true, eq, starred()), "(a = b) NOT IN (SELECT * FROM t)"},
		{inSub(false, cat, starred()), "a || b IN (SELECT * FROM t)"},
		{applied(impl.OpCat, cat, cat), "a || b || (a || b)"},
		{applied(impl.OpCat, add, add), "a + b || a + b"},
		{applied(impl.OpAdd, cat, cat), "(a || b) + (a || b)"},
		{applied(impl.OpSub, add, add), "a + b - (a + b)"},
		{applied(impl.OpAdd, mul, mul), "a * b + a * b"},
		{applied(impl.OpMul, add, add), "(a + b) * (a + b)"},
		{applied(impl.OpDiv, mul, mul), "a * b / (a * b)"},
		{applied(impl.OpRem, neg, neg), "- a % - a"},
		{applied(impl.OpSub, neg, neg), "- a - - a"},
		{applied(impl.OpNeg, mul), "- (a * b)"},
		{applied(impl.OpNeg, neg), "- - a"},
		{applied(impl.OpNeg, exists(starred())), "- EXISTS (SELECT * FROM t)"},
		{applied(impl.OpMul, applied(impl.OpSub, a, applied(impl.OpSub, b, applied(impl.OpNeg, or))), a), "(a - (b - - (a OR b))) * a"},
	}
	for _, row := range rows {
		checkTokens(t, row.e, row.want)
		checkReadBack(t, row.e)
	}
}

func TestWriteOperatorsOfTheSameLevel(t *testing.T) {
	for _, level := range [][]int{{1}, {2}, {3, 4, 5, 6, 7, 8}, {9}, {10, 11}, {12, 13, 14}} {
		for _, outer := range level {
			for _, inner := range level {
				a, b, c := column("", "a"), column("", "b"), column("", "c")
				x, y := " "+operators[outer-1]+" ", " "+operators[inner-1]+" "
				left := "a" + y + "b"
				if len(level) == 6 {
					left = "(" + left + ")"
				}
				checkTokens(t, applied(outer, applied(inner, a, b), c), left+x+"c")
				checkTokens(t, applied(outer, a, applied(inner, b, c)), "a"+x+"(b"+y+"c)")
			}
		}
	}
}

func TestWriteParenthesesInEachPlaceOfASub(t *testing.T) {
	a := column("", "a")
	or := applied(impl.OpOr, a, a)
	e := applied(impl.OpNot, or)
	wants := []string{"SELECT NOT (a OR a) FROM t", "SELECT * FROM t JOIN u ON NOT (a OR a)", "SELECT * FROM t WHERE NOT (a OR a)", "SELECT * FROM t ORDER BY NOT (a OR a)"}
	for i, q := range queriesWith(e) {
		checkQueryTokens(t, q, wants[i])
		checkTokens(t, inSub(false, or, q), "(a OR a) IN ("+wants[i]+")")
		checkTokens(t, applied(impl.OpNot, applied(impl.OpAnd, exists(q), or)), "NOT (EXISTS ("+wants[i]+") AND (a OR a))")
	}
	// An expression of a query has no operator around it, so that it needs no parentheses.
	wants = []string{"SELECT a OR a FROM t", "SELECT * FROM t JOIN u ON a OR a", "SELECT * FROM t WHERE a OR a", "SELECT * FROM t ORDER BY a OR a"}
	for i, q := range queriesWith(or) {
		checkQueryTokens(t, q, wants[i])
		checkFull(t, exists(q), impl.Spaced(tokensIn(t, "EXISTS ("+wants[i]+")")))
	}
}

func TestWriteItems(t *testing.T) {
	a, sum := column("", "a"), applied(impl.OpAdd, column("t", "b"), lit(intOf(1)))
	rows := []struct {
		items []impl.Item
		want  string
	}{
		{[]impl.Item{{Star: true}}, "*"},
		{[]impl.Item{{Star: true, Qual: "t"}}, "t.*"},
		{[]impl.Item{{Star: true, Qual: "from"}}, `"from".*`},
		{[]impl.Item{{Expr: a}}, "a"},
		{[]impl.Item{{Expr: a, As: "x"}}, "a AS x"},
		{[]impl.Item{{Expr: sum, As: "as"}}, `t.b + 1 AS "as"`},
		{[]impl.Item{{Expr: applied(impl.OpOr, a, a), As: "x y"}, {Expr: sum}}, `a OR a AS "x y", t.b + 1`},
		{[]impl.Item{{Star: true}, {Star: true, Qual: "t"}, {Expr: a}, {Expr: a, As: "a"}, {Star: true}}, "*, t.*, a, a AS a, *"},
		{repeated(impl.Item{Star: true}, 12), strings.Repeat("*,", 11) + "*"},
		{repeated(impl.Item{Expr: a, As: "b"}, 12), strings.Repeat("a AS b,", 11) + "a AS b"},
	}
	for _, row := range rows {
		q := starred()
		q.Items = row.items
		checkQueryTokens(t, q, "SELECT "+row.want+" FROM t")
		q.Distinct = true
		checkQueryTokens(t, q, "SELECT DISTINCT "+row.want+" FROM t")
		checkQueryReadBack(t, q)
	}
}

func TestWriteSources(t *testing.T) {
	on := []impl.Expr{applied(impl.OpEq, column("t", "a"), column("u", "a"))}
	or := []impl.Expr{applied(impl.OpOr, on[0], column("", "b"))}
	rows := []struct {
		from []impl.Source
		want string
	}{
		{[]impl.Source{{Table: "t"}}, "t"},
		{[]impl.Source{{Table: "t", As: "x"}}, "t AS x"},
		{[]impl.Source{{Table: "from", As: "on"}}, `"from" AS "on"`},
		{[]impl.Source{{Table: "t"}, {Table: "u"}}, "t, u"},
		{[]impl.Source{{Table: "t"}, {Table: "u"}, {Table: "v"}}, "t, u, v"},
		{[]impl.Source{{Table: "t"}, {Table: "u", On: on}}, "t JOIN u ON t.a = u.a"},
		{[]impl.Source{{Table: "t"}, {Table: "u", On: on}, {Table: "v"}}, "t JOIN u ON t.a = u.a, v"},
		{[]impl.Source{{Table: "t"}, {Table: "u"}, {Table: "v", On: or}}, "t, u JOIN v ON t.a = u.a OR b"},
		{[]impl.Source{{Table: "t"}, {Table: "u", On: on}, {Table: "v", On: or}}, "t JOIN u ON t.a = u.a JOIN v ON t.a = u.a OR b"},
		{[]impl.Source{{Table: "t", As: "x"}, {Table: "u", As: "y", On: on}}, "t AS x JOIN u AS y ON t.a = u.a"},
		{[]impl.Source{{Table: "t", As: "x"}, {Table: "u", As: "y"}}, "t AS x, u AS y"},
		{[]impl.Source{{Table: "t"}, {Table: "t", As: "join", On: on}, {Table: "t", As: "z"}}, `t JOIN t AS "join" ON t.a = u.a, t AS z`},
		{[]impl.Source{{Table: "t"}, {Table: "u", As: "y"}, {Table: "v", As: "z", On: on}}, "t, u AS y JOIN v AS z ON t.a = u.a"},
	}
	for _, row := range rows {
		q := starred()
		q.From = row.from
		checkQueryTokens(t, q, "SELECT * FROM "+row.want)
		checkQueryReadBack(t, q)
		q.Where, q.Order, q.Limit = on, keys(or...), 2
		checkQueryTokens(t, q, "SELECT * FROM "+row.want+" WHERE t.a = u.a ORDER BY t.a = u.a OR b LIMIT 2")
	}
}

// TestWriteJoins has every choice of On conditions and aliases of up to four sources, with conditions of each level.
func TestWriteJoins(t *testing.T) {
	conditions := append(growths(leaves()...), leaves()...)
	for n := 1; n <= 4; n++ {
		for choice := range 1 << (2 * n) {
			q := starred()
			q.From = nil
			for i := range n {
				x := impl.Source{Table: "t" + strconv.Itoa(i)}
				if choice>>i&1 == 1 {
					x.On = []impl.Expr{conditions[(choice+i)%len(conditions)]}
				}
				if choice>>(n+i)&1 == 1 {
					x.As = "a" + strconv.Itoa(i)
				}
				q.From = append(q.From, x)
			}
			// The first source has no condition, and there are three of them at most.
			if choice&1 == 1 || n > 3 {
				checkUnwrittenQuery(t, q)
				checkUnwritten(t, exists(q))
			} else {
				checkQueryReadBack(t, q)
			}
		}
	}
	for _, e := range conditions {
		q := joinedOn(e)
		q.From = append(q.From, impl.Source{Table: "v"}, impl.Source{Table: "w"})[:3]
		checkQueryReadBack(t, q)
		q.From[2].On = []impl.Expr{e}
		checkQueryReadBack(t, q)
		q.From[1].On = nil
		checkQueryReadBack(t, q)
	}
}

func TestWriteWhereOrderAndLimit(t *testing.T) {
	a, and := column("", "a"), applied(impl.OpAnd, column("", "b"), column("", "c"))
	wheres := map[string][]impl.Expr{"": nil, " WHERE b AND c": {and}}
	orders := map[string][]impl.SortKey{
		"": nil, " ORDER BY a": keys(a), " ORDER BY a DESC": {{Expr: a, Desc: true}}, " ORDER BY a DESC, b AND c": {{Expr: a, Desc: true}, {Expr: and}},
		" ORDER BY a, b AND c DESC, a": {{Expr: a}, {Expr: and, Desc: true}, {Expr: a}}, " ORDER BY a" + strings.Repeat(",a", 11): keys(repeated(a, 12)...),
	}
	limits := map[string]int{"": -1, " LIMIT 0": 0, " LIMIT 1": 1, " LIMIT 9223372036854775807": math.MaxInt}
	for where, list := range wheres {
		for order, sorted := range orders {
			for limit, n := range limits {
				q := selecting(a)
				q.Where, q.Order, q.Limit = list, sorted, n
				checkQueryTokens(t, q, "SELECT a FROM t"+where+order+limit)
				checkQueryReadBack(t, q)
				q.Distinct = true
				checkQueryTokens(t, q, "SELECT DISTINCT a FROM t"+where+order+limit)
			}
		}
	}
	for _, n := range []int{-2, -3, math.MinInt} {
		q := starred()
		q.Limit = n
		checkUnwrittenQuery(t, q)
		checkUnwritten(t, exists(q))
	}
}

func TestWriteQueriesWithinQueries(t *testing.T) {
	checkQueryTokens(t, full(), `SELECT DISTINCT *, t.*, t.b AS "x y", a IN (TRUE, FALSE, NULL)
		FROM t JOIN u AS v ON NOT EXISTS (SELECT * FROM t), w AS z
		WHERE EXISTS (SELECT *, a NOT BETWEEN 1 AND 9 AS m FROM t JOIN u ON a = t.b
			WHERE a NOT IN (SELECT a IS NOT NULL, t.b || 'x' FROM t LIMIT 0)) OR - a
		ORDER BY t.b DESC, 'it''s' IS NULL LIMIT 7`)
	checkQueryReadBack(t, full())
	inner := inSub(false, applied(impl.OpEq, column("", "a"), column("", "b")), starred())
	short := "(a = b) IN (SELECT * FROM t)"
	for range 4 {
		q := joinedOn(inner)
		q.Items, q.Where, q.Order, q.Limit = items(column("", "a")), []impl.Expr{column("", "a")}, keys(column("", "a")), 5
		inner, short = exists(q), "EXISTS (SELECT a FROM t JOIN u ON "+short+" WHERE a ORDER BY a LIMIT 5)"
		checkTokens(t, inner, short)
		checkReadBack(t, inner)
	}
}

func TestFullTextOfEveryKid(t *testing.T) {
	a, b := column("", "a"), column("", "b")
	for _, kid := range append(growths(a, b), leaves()...) {
		inside := impl.Spaced(impl.ExprTokens(kid))
		if levelByRules(kid) != 9 {
			inside = "(" + inside + ")"
		}
		wants := map[string]impl.Expr{
			"NOT #": applied(impl.OpNot, kid), "- #": applied(impl.OpNeg, kid),
			"# IS NULL": tested(impl.ExIs, false, kid), "# IS NOT NULL": tested(impl.ExIs, true, kid),
			"# BETWEEN a AND b": tested(impl.ExBetween, false, kid, a, b), "a NOT BETWEEN # AND b": tested(impl.ExBetween, true, a, kid, b),
			"a BETWEEN b AND #": tested(impl.ExBetween, false, a, b, kid),
			"# IN (a)":          tested(impl.ExIn, false, kid, a), "a NOT IN (#)": tested(impl.ExIn, true, a, kid),
			"a IN (b, #, #)":             tested(impl.ExIn, false, a, b, kid, kid),
			"# NOT IN (SELECT * FROM t)": inSub(true, kid, starred()),
			"EXISTS (SELECT NOT # FROM t WHERE - # ORDER BY # IS NULL DESC)": exists(impl.Query{
				Items: items(applied(impl.OpNot, kid)), From: []impl.Source{{Table: "t"}},
				Where: []impl.Expr{applied(impl.OpNeg, kid)}, Order: []impl.SortKey{{Expr: tested(impl.ExIs, false, kid), Desc: true}}, Limit: -1,
			}),
			"a IN (SELECT * FROM t JOIN u ON # AND #)": inSub(false, a, joinedOn(applied(impl.OpAnd, kid, kid))),
		}
		for op := 1; op <= 14; op++ {
			wants["# "+operators[op-1]+" #"] = applied(op, kid, kid)
			wants["a "+operators[op-1]+" #"] = applied(op, a, kid)
			wants["# "+operators[op-1]+" b"] = applied(op, kid, b)
		}
		for want, e := range wants {
			checkFull(t, e, impl.Spaced(tokensIn(t, strings.ReplaceAll(want, "#", inside))))
			checkTextsByRules(t, e)
		}
	}
}

func TestFullTextAtSeveralDepths(t *testing.T) {
	a := column("", "a")
	checkFull(t, a, "a")
	e, want := applied(impl.OpNeg, a), "-a"
	for range 4 {
		checkFull(t, e, want)
		e, want = applied(impl.OpMul, a, e), "a*("+want+")"
		checkFull(t, e, want)
		e, want = applied(impl.OpOr, tested(impl.ExIs, false, e), exists(selecting(e))), "(("+want+")IS NULL)OR EXISTS(SELECT "+want+"FROM t)"
	}
	// The first operand of a left-associative operator needs no parentheses, but has them.
	checkTexts(t, applied(impl.OpSub, applied(impl.OpSub, a, a), a), "a-a-a", "(a-a)-a")
	checkTexts(t, applied(impl.OpOr, applied(impl.OpAnd, a, a), applied(impl.OpNot, a)), "a AND a OR NOT a", "(a AND a)OR(NOT a)")
	checkTexts(t, tested(impl.ExIn, false, a, applied(impl.OpOr, a, a)), "a IN(a OR a)", "a IN((a OR a))")
	checkTexts(t, applied(impl.OpEq, inSub(false, a, starred()), lit(yes)), "(a IN(SELECT*FROM t))=TRUE", "(a IN(SELECT*FROM t))=TRUE")
}

func TestTokensOfValidExpressions(t *testing.T) {
	for _, e := range append(validExprs(), wrapping(0), wrapping(9), bush(200), chain(24), exists(full())) {
		checkReadBack(t, e)
		for _, q := range queriesWith(e) {
			checkQueryReadBack(t, q)
		}
		if want := impl.ExprTokens(e); !slices.Equal(impl.ExprTokens(remade(e, emptyLists)), want) {
			t.Errorf("empty slices change the tokens of %s", described(e))
		}
	}
}

func TestTokensOfEveryPairOfOperators(t *testing.T) {
	for _, kid := range append(growths(leaves()...), leaves()...) {
		for _, parent := range growths(leaves()...) {
			for k := range parent.Kids {
				e := copied(parent)
				e.Kids[k] = kid
				checkReadBack(t, e)
			}
		}
	}
}

// TestTokensOfMutants has valid and invalid trees that differ in a single field.
func TestTokensOfMutants(t *testing.T) {
	oks := map[bool]int{}
	list := append(validExprs(), wrapping(2), exists(selecting(wrapping(1), applied(impl.OpSub, wrapping(0), wrapping(1)))))
	for _, e := range list {
		visitMutants(e, func(other impl.Expr) {
			ok := okByRules(other)
			oks[ok]++
			if ok {
				checkReadBack(t, other)
			} else {
				checkUnwritten(t, other)
			}
		})
	}
	visitMutants(full(), func(other impl.Query) {
		ok := queryOkByRules(other)
		oks[ok]++
		if ok {
			checkQueryReadBack(t, other)
		} else {
			checkUnwrittenQuery(t, other)
		}
	})
	if oks[true] < 1000 || oks[false] < 1000 {
		t.Errorf("%d mutants are valid and %d are not", oks[true], oks[false])
	}
}

// respell gives other names and texts to what is in v, but leaves empty strings as they are.
func respell(v reflect.Value, pick func() string) {
	switch v.Kind() {
	case reflect.String:
		if v.String() != "" {
			v.SetString(pick())
		}
	case reflect.Struct:
		for i := range v.NumField() {
			respell(v.Field(i), pick)
		}
	case reflect.Slice:
		for i := range v.Len() {
			respell(v.Index(i), pick)
		}
	}
}

func TestTokensOfRandomTrees(t *testing.T) {
	random := rand.New(rand.NewSource(100))
	odd := oddNames()
	pick := func() string { return odd[random.Intn(len(odd))] }
	oks, pairs := map[bool]int{}, 0
	for i := range 900 {
		e, q := randomExpr(random, 1+i%13), randomQuery(random, 1+i%6)
		respell(reflect.ValueOf(&e).Elem(), pick)
		respell(reflect.ValueOf(&q).Elem(), pick)
		oks[okByRules(e)]++
		if okByRules(e) {
			checkReadBack(t, e)
			pairs += impl.Wraps(e)
		} else {
			checkUnwritten(t, e)
		}
		if queryOkByRules(q) {
			checkQueryReadBack(t, q)
		} else {
			checkUnwrittenQuery(t, q)
		}
	}
	if oks[true] < 500 || oks[false] < 50 || pairs < 1000 {
		t.Errorf("%d random trees, with %d pairs, are valid and %d are not", oks[true], pairs, oks[false])
	}
}

func TestInvalidTreesHaveNoTokens(t *testing.T) {
	for _, e := range append(invalidExprs(), impl.Expr{Kind: -1}, impl.Expr{Kind: impl.ExBin, Op: impl.OpAdd}, impl.Expr{Kind: impl.ExInSub}, impl.Expr{Kind: impl.ExExists}) {
		checkUnwritten(t, e)
		checkUnwritten(t, applied(impl.OpNot, e))
		checkUnwritten(t, applied(impl.OpOr, chain(1), e))
		checkUnwritten(t, tested(impl.ExIn, true, chain(1), chain(1), e))
		for _, q := range queriesWith(e) {
			checkUnwrittenQuery(t, q)
			checkUnwritten(t, exists(q))
			checkUnwritten(t, inSub(false, chain(1), q))
		}
	}
	for _, q := range invalidQueries() {
		checkUnwrittenQuery(t, q)
		checkUnwritten(t, exists(q))
		checkUnwritten(t, inSub(true, chain(1), q))
	}
	checkUnwrittenQuery(t, impl.Query{})
	checkUnwrittenQuery(t, impl.Query{Items: repeated(impl.Item{Star: true}, 13), From: []impl.Source{{Table: "t"}}, Limit: -1})
	checkUnwrittenQuery(t, impl.Query{Items: []impl.Item{{Star: true}}, From: repeated(impl.Source{Table: "t"}, 4), Limit: -1})
}

func TestTokensAtTheLimits(t *testing.T) {
	left, right, negated := column("", "a"), column("", "a"), column("", "a")
	longest := []string{"a", "a", "a"}
	for range 23 {
		left, right, negated = applied(impl.OpSub, left, column("", "b")), applied(impl.OpSub, column("", "b"), right), applied(impl.OpNeg, negated)
		checkReadBack(t, left)
		checkReadBack(t, right)
		checkReadBack(t, negated)
	}
	longest[0] = "a" + strings.Repeat("-b", 23)
	longest[1] = strings.Repeat("b-(", 22) + "b-a" + strings.Repeat(")", 22)
	longest[2] = strings.Repeat("- ", 22) + "-a"
	checkTexts(t, left, longest[0], strings.Repeat("(", 22)+"a"+strings.Repeat("-b)", 22)+"-b")
	checkTexts(t, right, longest[1], longest[1])
	checkTexts(t, negated, longest[2], strings.Repeat("-(", 22)+"-a"+strings.Repeat(")", 22))
	checkUnwritten(t, applied(impl.OpSub, left, left))
	checkUnwritten(t, applied(impl.OpNeg, right))
	checkUnwrittenQuery(t, selecting(applied(impl.OpNeg, negated)))
	checkReadBack(t, nested(24, chain(1), true))
	checkUnwritten(t, nested(25, chain(1), true))
	wide := tested(impl.ExIn, false, repeated(tested(impl.ExIn, true, repeated(applied(impl.OpOr, column("", "a"), lit(no)), 6)...), 9)...)
	checkReadBack(t, wide)
	checkReadBack(t, bush(200))
	checkUnwritten(t, bush(201))
}

// measured returns an expression whose text has 1998 - less + n bytes, for n from 1 to 20 and less from 0 to 19. Five of its Kids are lists.
func measured(n, less int) impl.Expr {
	// With 9 columns of 41 bytes, 7 commas, IN, its parentheses and a space, a list has 381 bytes.
	lists := repeated(tested(impl.ExIn, false, repeated(column(long(20), long(20)), 9)...), 5)
	kids := append([]impl.Expr{column("", long(n))}, lists...)
	return tested(impl.ExIn, false, append(kids, column(long(20), long(20)), column(long(20), long(20-less)))...)
}

// TestTextsThatAreTooLong has texts around the limit MaxSource. Their tokens have no limit.
func TestTextsThatAreTooLong(t *testing.T) {
	bounded := func(n int) int {
		if n > 2000 {
			return 0
		}
		return n
	}
	for n := 1; n <= 20; n++ {
		// The parentheses around the five lists are ten bytes of the full text.
		for _, row := range []struct{ less, short, full int }{{0, 1998 + n, 2008 + n}, {10, 1988 + n, 1998 + n}} {
			e := measured(n, row.less)
			if s := impl.ExprText(e); len(s) != bounded(row.short) {
				t.Errorf("the text has %d bytes, want %d", len(s), bounded(row.short))
			}
			if s := impl.FullText(e); len(s) != bounded(row.full) {
				t.Errorf("the full text has %d bytes, want %d", len(s), bounded(row.full))
			}
			checkReadBack(t, e)
		}
	}
	huge := column(strings.Repeat("\"", 20), strings.Repeat("\"", 20))
	for impl.SizeOf(huge) < 100 {
		huge = applied(impl.OpOr, huge, huge)
	}
	checkReadBack(t, huge)
	checkTexts(t, huge, "", "")
	for _, q := range queriesWith(huge) {
		checkQueryReadBack(t, q)
		checkTexts(t, exists(q), "", "")
	}
}

// callWriters calls every function of printing with e and with its Sub.
func callWriters(e impl.Expr) {
	impl.ExprTokens(e)
	impl.ExprText(e)
	impl.FullText(e)
	for _, q := range e.Sub {
		impl.QueryTokens(q)
	}
}

func TestWritingDoesNotChangeTrees(t *testing.T) {
	random := rand.New(rand.NewSource(101))
	list := append(append(validExprs(), invalidExprs()...), wrapping(5), impl.Expr{})
	for _, q := range append(append(invalidQueries(), full()), queriesWith(wrapping(2))...) {
		list = append(list, exists(q), inSub(true, wrapping(2), q), impl.Expr{Kids: []impl.Expr{exists(q)}, Sub: []impl.Query{q, full()}})
	}
	for i := range 300 {
		list = append(list, randomExpr(random, 1+i%7))
	}
	for _, e := range list {
		// With unused capacity in every slice, an append to one of them is seen too.
		roomy := remade(e, roomyLists)
		before := remade(roomy, wholeLists)
		callWriters(roomy)
		if !reflect.DeepEqual(remade(roomy, wholeLists), before) {
			t.Errorf("a call changes %s", described(e))
		}
	}
}

func TestTokensAreNewEachTime(t *testing.T) {
	for _, e := range append(validExprs(), exists(full())) {
		first := impl.ExprTokens(e)
		want := slices.Clone(first)
		second := impl.ExprTokens(e)
		clear(first[:cap(first)])
		if !slices.Equal(second, want) || !slices.Equal(impl.ExprTokens(e), want) {
			t.Errorf("the tokens of two calls share memory at %s", described(e))
		}
		for _, q := range queriesWith(e) {
			first, second = impl.QueryTokens(q), impl.QueryTokens(q)
			want = slices.Clone(first)
			clear(first[:cap(first)])
			if !slices.Equal(second, want) || !slices.Equal(impl.QueryTokens(q), want) {
				t.Errorf("the tokens of two calls share memory at %s", described(q))
			}
		}
	}
}

// TestWritingVeryLargeTrees has trees that are not valid, for which a stack that ends early would not suffice if a function called itself for each part.
func TestWritingVeryLargeTrees(t *testing.T) {
	defer debug.SetMaxStack(debug.SetMaxStack(1 << 24))
	a, huge := column("", "a"), chain(1)
	for range 60 {
		huge = applied(impl.OpAdd, huge, huge)
	}
	endless := applied(impl.OpNot, a)
	endless.Kids[0] = endless
	for _, e := range []impl.Expr{
		wrapped(500000, false), wrapped(40000, true), nested(500000, a, false), nested(50000, a, true), huge, endless,
		tested(impl.ExIn, true, repeated(a, 300000)...), exists(selecting(repeated(a, 300000)...)), {Kind: impl.ExExists, Sub: repeated(starred(), 300000)},
	} {
		if impl.ExprTokens(e) != nil || impl.ExprText(e) != "" || impl.FullText(e) != "" {
			t.Errorf("a very large expression of the kind %d has tokens", e.Kind)
		}
		for _, q := range queriesWith(e) {
			if impl.QueryTokens(q) != nil {
				t.Errorf("a query with a very large expression of the kind %d has tokens", e.Kind)
			}
		}
	}
}
