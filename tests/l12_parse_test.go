package tests

import (
	"math"
	"math/rand"
	"reflect"
	"runtime/debug"
	"slices"
	"strconv"
	"strings"
	"testing"

	"loop.example/g00495/impl"
)

// grammarText is the grammar of chapter 12, with rules of their own for the optional and the repeated parts.
const grammarText = `
or = and | or OR and
and = not | and AND not
not = NOT not | cmp
cmp = cat | cat compare cat | cat IS NULL | cat IS NOT NULL
cmp = cat BETWEEN cat AND cat | cat NOT BETWEEN cat AND cat
cmp = cat IN ( list ) | cat NOT IN ( list ) | cat IN ( query ) | cat NOT IN ( query )
compare = = | <> | < | <= | > | >=
list = or | list , or
cat = sum | cat || sum
sum = prod | sum + prod | sum - prod
prod = neg | prod * neg | prod / neg | prod % neg
neg = - neg | prim
prim = <int> | <text> | NULL | TRUE | FALSE | <name> | <name> . <name> | ( or ) | EXISTS ( query )
query = sorted | sorted LIMIT <int>
sorted = chosen | chosen ORDER BY keys
chosen = joined | joined WHERE or
joined = select items FROM sources
select = SELECT | SELECT DISTINCT
items = item | items , item
item = * | <name> . * | or | or AS <name>
sources = source | sources , source | sources JOIN source ON or
source = <name> | <name> AS <name>
keys = key | keys , key
key = or | or ASC | or DESC
`

type production struct {
	left  string
	right []string
}

func grammar() []production {
	var all []production
	for _, line := range strings.Split(strings.TrimSpace(grammarText), "\n") {
		words := strings.Fields(line)
		all = append(all, production{left: words[0]})
		for _, word := range words[2:] {
			if word == "|" {
				all = append(all, production{left: words[0]})
				continue
			}
			last := &all[len(all)-1]
			last.right = append(last.right, word)
		}
	}
	return all
}

// progress is a rule of which the symbols before the dot stand for the tokens behind the first from tokens.
type progress struct{ rule, dot, from int }

// chart holds, for each number of tokens, how far each rule can have come with them (Earley's method).
// Unlike a parser, it follows all derivations at the same time. The tokens begin a sentence if and only if some rule goes on.
type chart struct {
	start  string
	rules  []production
	byLeft map[string][]int
	sets   [][]progress
}

func newChart(start string) *chart {
	c := &chart{start: start, rules: grammar(), byLeft: map[string][]int{}}
	for i, rule := range c.rules {
		c.byLeft[rule.left] = append(c.byLeft[rule.left], i)
	}
	var set []progress
	for _, i := range c.byLeft[start] {
		set = append(set, progress{rule: i})
	}
	c.push(set)
	return c
}

// next returns the symbol behind the dot, or "" at the end of the rule.
func (c *chart) next(x progress) string {
	if right := c.rules[x.rule].right; x.dot < len(right) {
		return right[x.dot]
	}
	return ""
}

// push adds to the set what follows from it. No rule is empty, so that the set in which a rule began is complete when it ends.
func (c *chart) push(set []progress) {
	seen := map[progress]bool{}
	add := func(x progress) {
		if !seen[x] {
			seen[x] = true
			set = append(set, x)
		}
	}
	for _, x := range set {
		seen[x] = true
	}
	for i := 0; i < len(set); i++ {
		x := set[i]
		next := c.next(x)
		if next != "" {
			for _, rule := range c.byLeft[next] {
				add(progress{rule: rule, from: len(c.sets)})
			}
			continue
		}
		for _, outer := range c.sets[x.from] {
			if c.next(outer) == c.rules[x.rule].left {
				outer.dot++
				add(outer)
			}
		}
	}
	c.sets = append(c.sets, set)
}

func standsFor(symbol string, x impl.Token) bool {
	switch symbol {
	case "<int>":
		return x.Kind == impl.TkInt && impl.TokenOk(x)
	case "<text>":
		return x.Kind == impl.TkText && impl.TokenOk(x)
	case "<name>":
		return x.Kind == impl.TkName && impl.TokenOk(x)
	}
	if isKeyword(symbol) {
		return x.Kind == impl.TkKey && x.Text == symbol
	}
	return x.Kind == impl.TkSign && x.Text == symbol
}

// add goes on with a token and reports whether it continues a sentence. The chart stays as it is if not.
func (c *chart) add(x impl.Token) bool {
	var set []progress
	for _, old := range c.sets[len(c.sets)-1] {
		if symbol := c.next(old); symbol != "" && c.byLeft[symbol] == nil && standsFor(symbol, x) {
			old.dot++
			set = append(set, old)
		}
	}
	if len(set) > 0 {
		c.push(set)
	}
	return len(set) > 0
}

// cut goes back to the first n tokens.
func (c *chart) cut(n int) { c.sets = c.sets[:n+1] }

// whole reports whether the tokens are a sentence.
func (c *chart) whole() bool {
	return slices.ContainsFunc(c.sets[len(c.sets)-1], func(x progress) bool {
		return x.from == 0 && c.rules[x.rule].left == c.start && c.next(x) == ""
	})
}

// firstBad returns what TakeExpr or TakeQuery has to return beside the tree. The first n tokens are in the chart already.
func (c *chart) firstBad(list []impl.Token, n int) int {
	c.cut(n)
	for i, x := range list[n:] {
		if !c.add(x) {
			return n + i
		}
	}
	if c.whole() {
		return -1
	}
	return len(list)
}

// checkTaken expects the tree of list, or the zero tree and the index bad.
func checkTaken(t *testing.T, list []impl.Token, bad int) {
	t.Helper()
	want := impl.Expr{}
	if bad == -1 {
		want, _ = readTokens(list)
	}
	if e, at := impl.TakeExpr(list); at != bad || !sameByRules(e, want) {
		t.Errorf("TakeExpr is %d at %q, want %d; the tree is %s", at, texts(list), bad, described(e))
	}
}

func checkTakenQuery(t *testing.T, list []impl.Token, bad int) {
	t.Helper()
	want := impl.Query{}
	if bad == -1 {
		want, _ = readQueryTokens(list)
	}
	if q, at := impl.TakeQuery(list); at != bad || !sameByRules(q, want) {
		t.Errorf("TakeQuery is %d at %q, want %d; the tree is %s", at, texts(list), bad, described(q))
	}
}

// checkByGrammar compares both functions with the charts.
func checkByGrammar(t *testing.T, list []impl.Token) {
	t.Helper()
	checkTaken(t, list, newChart("or").firstBad(list, 0))
	checkTakenQuery(t, list, newChart("query").firstBad(list, 0))
}

// parses expects the tree want of the text s, with the fault FtForm if it is not valid.
func parses(t *testing.T, s string, want impl.Expr) {
	t.Helper()
	if e, bad := impl.TakeExpr(tokensIn(t, s)); bad != -1 || !sameByRules(e, want) {
		t.Errorf("TakeExpr is %d at %q, and the tree is %s, want %s", bad, s, described(e), described(want))
	}
	fault := impl.Fault{}
	if !okByRules(want) {
		want, fault = impl.Expr{}, impl.Fault{Code: impl.FtForm}
	}
	checkParsed(t, s, want, fault)
}

func parsesQuery(t *testing.T, s string, want impl.Query) {
	t.Helper()
	if q, bad := impl.TakeQuery(tokensIn(t, s)); bad != -1 || !sameByRules(q, want) {
		t.Errorf("TakeQuery is %d at %q, and the tree is %s, want %s", bad, s, described(q), described(want))
	}
	parses(t, "EXISTS ("+s+")", exists(want))
	parses(t, "z NOT IN ("+s+")", inSub(true, column("", "z"), want))
	fault := impl.Fault{}
	if !queryOkByRules(want) {
		want, fault = impl.Query{}, impl.Fault{Code: impl.FtForm}
	}
	checkParsedQuery(t, s, want, fault)
}

func checkParsed(t *testing.T, s string, want impl.Expr, fault impl.Fault) {
	t.Helper()
	if e, got := impl.ParseExpr(s); got != fault || !sameByRules(e, want) {
		t.Errorf("ParseExpr has the fault %v at %q, want %v; the tree is %s", got, s, fault, described(e))
	}
}

func checkParsedQuery(t *testing.T, s string, want impl.Query, fault impl.Fault) {
	t.Helper()
	if q, got := impl.ParseQuery(s); got != fault || !sameByRules(q, want) {
		t.Errorf("ParseQuery has the fault %v at %q, want %v; the tree is %s", got, s, fault, described(q))
	}
}

func checkFault(t *testing.T, s string, code, at int) {
	t.Helper()
	checkParsed(t, s, impl.Expr{}, impl.Fault{Code: code, At: at})
}

func checkQueryFault(t *testing.T, s string, code, at int) {
	t.Helper()
	checkParsedQuery(t, s, impl.Query{}, impl.Fault{Code: code, At: at})
}

// offsetOf returns the offset of the token with this index in s, or the length of s behind the last one.
func offsetOf(t *testing.T, s string, index int) int {
	t.Helper()
	list, bad := impl.Lex(s)
	if bad >= 0 {
		t.Fatalf("there is no token at %d of %q", bad, s)
	}
	if index == len(list) {
		return len(s)
	}
	return list[index].At
}

// stops expects that the token of s with this index is the first one that cannot continue an expression.
func stops(t *testing.T, s string, index int) {
	t.Helper()
	checkTaken(t, tokensIn(t, s), index)
	checkFault(t, s, impl.FtSyntax, offsetOf(t, s, index))
}

func stopsQuery(t *testing.T, s string, index int) {
	t.Helper()
	checkTakenQuery(t, tokensIn(t, s), index)
	checkQueryFault(t, s, impl.FtSyntax, offsetOf(t, s, index))
	// In parentheses, a query may end at ")". Behind IN, an expression may begin in its place.
	list := tokensIn(t, s)
	if index == len(list) || list[index] == sign(")", 0) {
		return
	}
	stops(t, "EXISTS ("+s, index+2)
	stops(t, "EXISTS ("+s+")", index+2)
	if index > 0 {
		stops(t, "a IN ("+s+") OR b", index+3)
	}
}

// exprSentences has every rule of expressions, with each of its alternatives.
func exprSentences() []string {
	list := []string{
		"1", "0", "9223372036854775807", "'x'", "''", "NULL", "TRUE", "FALSE", "a", "t.a", `"from"."on"`, "(a)", "EXISTS (SELECT * FROM t)",
		"- a", "- - a", "NOT a", "NOT NOT a", "a OR b OR c", "a AND b AND c", "a || b || c", "a + b - c", "a * b / c % d",
		"a IS NULL", "a IS NOT NULL", "a BETWEEN b AND c", "a NOT BETWEEN b AND c", "a IN (b)", "a IN (b, c, d)", "a NOT IN (b OR c)",
		"a IN (SELECT * FROM t)", "a NOT IN (SELECT b FROM t WHERE c)", "((a))",
		"NOT a = b AND NOT - c * (d || 'x') IS NOT NULL OR e BETWEEN 1 AND 2 AND f NOT IN (g, NOT h)",
	}
	for _, op := range operators[:14] {
		list = append(list, "a "+op+" b")
	}
	return list
}

// querySentences has every rule of queries, with each of its alternatives.
func querySentences() []string {
	return []string{
		"SELECT * FROM t", "SELECT DISTINCT * FROM t", "SELECT t.* FROM t", "SELECT a FROM t", "SELECT t.a AS x FROM t", "SELECT a AS x, *, t.*, t.a + 1 AS y, b OR c FROM t",
		"SELECT * FROM t AS x", "SELECT * FROM t, u AS y, v", "SELECT * FROM t JOIN u ON a", "SELECT * FROM t AS x JOIN u AS y ON a = b OR c, v JOIN w ON NOT d",
		"SELECT * FROM t WHERE a OR b", "SELECT * FROM t ORDER BY a", "SELECT * FROM t ORDER BY a ASC, t.b DESC, c || d", "SELECT * FROM t LIMIT 0",
		"SELECT * FROM t WHERE a LIMIT 9223372036854775807", "SELECT * FROM t ORDER BY a DESC LIMIT 1", "SELECT * FROM t, u LIMIT 5",
		"SELECT DISTINCT a, t.* FROM t AS x, u JOIN v ON TRUE WHERE NULL ORDER BY a DESC, b LIMIT 3",
		"SELECT EXISTS (SELECT * FROM t LIMIT 1) AS x FROM t JOIN u ON a IN (SELECT b FROM t ORDER BY c) WHERE d ORDER BY NOT EXISTS (SELECT * FROM v) ASC",
	}
}

func sentences() []string { return append(exprSentences(), querySentences()...) }

// alphabet returns a token for each symbol of the grammar, and the keywords that it does not have.
func alphabet() []impl.Token {
	list := []impl.Token{name("a", 0), num("1", 0), text("x", 0)}
	for _, k := range keyNumbers {
		list = append(list, key(k.text, 0))
	}
	for _, s := range signs {
		list = append(list, sign(s, 0))
	}
	return list
}

func TestParseConstants(t *testing.T) {
	if codes := []int{impl.FtLex, impl.FtSyntax, impl.FtForm}; !slices.Equal(codes, []int{1, 2, 3}) {
		t.Errorf("the codes of faults are %v", codes)
	}
}

func TestParseOperands(t *testing.T) {
	rows := map[string]impl.Expr{
		"0": lit(intOf(0)), "1": lit(intOf(1)), "42": lit(intOf(42)), "9223372036854775807": lit(intOf(math.MaxInt)),
		"''": lit(textOf("")), "'it''s'": lit(textOf("it's")), "'NULL'": lit(textOf("NULL")), "'a.b'": lit(textOf("a.b")),
		"NULL": lit(null), "TRUE": lit(yes), "FALSE": lit(no), "null": lit(null), "True": lit(yes),
		"a": column("", "a"), "A": column("", "A"), "t.a": column("t", "a"), " t . a ": column("t", "a"), "t.t": column("t", "t"),
		`"NULL"`: column("", "NULL"), `"t.a"`: column("", "t.a"), `"select"."a""b"`: column("select", "a\"b"), `t."*"`: column("t", "*"), `"1"`: column("", "1"),
		"EXISTS (SELECT * FROM t)": exists(starred()), "exists(select*from t)": exists(starred()),
		"(a)": column("", "a"), "((7))": lit(intOf(7)), "(((t.a)))": column("t", "a"), "(EXISTS (SELECT * FROM t))": exists(starred()), "('x')": lit(textOf("x")),
	}
	for s, want := range rows {
		parses(t, s, want)
		parses(t, "NOT "+s, applied(impl.OpNot, want))
		parses(t, "-"+" "+s, applied(impl.OpNeg, want))
		parses(t, "("+s+") IS NULL", tested(impl.ExIs, false, want))
		parses(t, "z="+s, applied(impl.OpEq, column("", "z"), want))
	}
	for _, s := range oddNames() {
		parses(t, impl.NameText(s), column("", s))
		parses(t, impl.NameText(s)+"."+impl.NameText(s), column(s, s))
	}
}

// TestParseOperators has each operator alone, repeated, and beside another one of its level.
func TestParseOperators(t *testing.T) {
	a, b, c, d := column("", "a"), column("", "b"), column("", "c"), column("", "d")
	for i, word := range operators[:14] {
		op := i + 1
		pair := applied(op, a, b)
		parses(t, "a "+word+" b", pair)
		parses(t, "(a) "+word+" (b)", pair)
		parses(t, "(a "+word+" b)", pair)
		parses(t, "a "+word+" (b "+word+" c)", applied(op, a, applied(op, b, c)))
		parses(t, "(a "+word+" b) "+word+" c", applied(op, pair, c))
		stops(t, "a "+word, 2)
		if word != "-" {
			stops(t, word+" a", 0)
			stops(t, "a "+word+" "+word+" b", 2)
		}
		if levelByRules(pair) == 4 {
			stops(t, "a "+word+" b "+word+" c", 3)
			continue
		}
		parses(t, "a "+word+" b "+word+" c", applied(op, pair, c))
		parses(t, "a "+word+" b "+word+" c "+word+" d", applied(op, applied(op, pair, c), d))
	}
	for i, first := range operators[:14] {
		for j, second := range operators[:14] {
			left, right := applied(i+1, applied(j+1, a, b), c), applied(i+1, a, applied(j+1, b, c))
			s := "a " + first + " b " + second + " c"
			switch low, high := levelByRules(left), levelByRules(left.Kids[0]); {
			case low == 4 && high == 4:
				stops(t, s, 3)
			case low < high:
				parses(t, s, right)
			default:
				parses(t, s, applied(j+1, applied(i+1, a, b), c))
			}
			parses(t, "a "+first+" (b "+second+" c)", right)
			parses(t, "(a "+second+" b) "+first+" c", left)
		}
	}
}

// TestParsePrefixes has NOT and - several times in a row, and before, behind and between operators of each level.
func TestParsePrefixes(t *testing.T) {
	a, b := column("", "a"), column("", "b")
	nots, negs := a, a
	for n := 1; n <= 20; n++ {
		nots, negs = applied(impl.OpNot, nots), applied(impl.OpNeg, negs)
		parses(t, strings.Repeat("NOT ", n)+"a", nots)
		parses(t, strings.Repeat("- ", n)+"a", negs)
		parses(t, strings.Repeat("NOT(", n)+"a"+strings.Repeat(")", n), nots)
		parses(t, strings.Repeat("NOT ", n)+strings.Repeat("- ", 3)+"a", nestedIn(applied(impl.OpNeg, applied(impl.OpNeg, applied(impl.OpNeg, a))), impl.OpNot, n))
		parses(t, "b AND "+strings.Repeat("NOT ", n)+"a", applied(impl.OpAnd, b, nots))
		parses(t, "b - "+strings.Repeat("- ", n)+"a", applied(impl.OpSub, b, negs))
		stops(t, strings.Repeat("NOT ", n), n)
		stops(t, strings.Repeat("- ", n), n)
	}
	for i, word := range operators[:14] {
		pair := applied(i+1, a, b)
		level := levelByRules(pair)
		parses(t, "- a "+word+" - b", applied(i+1, applied(impl.OpNeg, a), applied(impl.OpNeg, b)))
		parses(t, "- (a "+word+" b)", applied(impl.OpNeg, pair))
		parses(t, "NOT (a "+word+" b)", applied(impl.OpNot, pair))
		if level < 3 {
			parses(t, "NOT a "+word+" NOT b", applied(i+1, applied(impl.OpNot, a), applied(impl.OpNot, b)))
		} else {
			parses(t, "NOT a "+word+" b", applied(impl.OpNot, pair))
			stops(t, "a "+word+" NOT b", 2)
			stops(t, "NOT a "+word+" NOT b", 3)
			parses(t, "a "+word+" (NOT b)", applied(i+1, a, applied(impl.OpNot, b)))
		}
	}
	stops(t, "- NOT a", 1)
	parses(t, "- (NOT a)", applied(impl.OpNeg, applied(impl.OpNot, a)))
	parses(t, "NOT - a", applied(impl.OpNot, applied(impl.OpNeg, a)))
}

// nestedIn returns e within n unary operators.
func nestedIn(e impl.Expr, op, n int) impl.Expr {
	for range n {
		e = applied(op, e)
	}
	return e
}

func TestParseTests(t *testing.T) {
	a, b, c, d := column("", "a"), column("", "b"), column("", "c"), column("", "d")
	sum, or := applied(impl.OpAdd, a, b), applied(impl.OpOr, b, c)
	rows := map[string]impl.Expr{
		"a IS NULL": tested(impl.ExIs, false, a), "a IS NOT NULL": tested(impl.ExIs, true, a), "a + b IS NULL": tested(impl.ExIs, false, sum),
		"NULL IS NULL": tested(impl.ExIs, false, lit(null)), "NOT a IS NOT NULL": applied(impl.OpNot, tested(impl.ExIs, true, a)),
		"a BETWEEN b AND c": tested(impl.ExBetween, false, a, b, c), "a NOT BETWEEN b AND c": tested(impl.ExBetween, true, a, b, c),
		"a + b BETWEEN a + b AND a + b": tested(impl.ExBetween, false, sum, sum, sum), "a NOT BETWEEN - b AND 'x' || c": tested(impl.ExBetween, true, a, applied(impl.OpNeg, b), applied(impl.OpCat, lit(textOf("x")), c)),
		"a IN (b)": tested(impl.ExIn, false, a, b), "a NOT IN (b)": tested(impl.ExIn, true, a, b), "a IN ((b))": tested(impl.ExIn, false, a, b),
		"a IN (b, c)": tested(impl.ExIn, false, a, b, c), "a IN (b, c, d)": tested(impl.ExIn, false, a, b, c, d), "a NOT IN (d, c, b, a)": tested(impl.ExIn, true, a, d, c, b, a),
		"a + b IN (a + b, b OR c)": tested(impl.ExIn, false, sum, sum, or), "a IN (NOT b, b IN (c), b = c)": tested(impl.ExIn, false, a, applied(impl.OpNot, b), tested(impl.ExIn, false, b, c), applied(impl.OpEq, b, c)),
		"a IN (1,2,3,4,5,6,7,8)": tested(impl.ExIn, false, append([]impl.Expr{a}, numbersTo(8)...)...),
		"a IN (SELECT * FROM t)": inSub(false, a, starred()), "a NOT IN (SELECT * FROM t)": inSub(true, a, starred()), "a + b IN (SELECT * FROM t)": inSub(false, sum, starred()),
		"(NOT a) IS NULL": tested(impl.ExIs, false, applied(impl.OpNot, a)), "(a IS NULL) IS NULL": tested(impl.ExIs, false, tested(impl.ExIs, false, a)),
		"(a = b) = c": applied(impl.OpEq, applied(impl.OpEq, a, b), c), "a = (b IN (c))": applied(impl.OpEq, a, tested(impl.ExIn, false, b, c)),
		"(a IN (b)) BETWEEN (b OR c) AND (a IS NULL)": tested(impl.ExBetween, false, tested(impl.ExIn, false, a, b), or, tested(impl.ExIs, false, a)),
	}
	for s, want := range rows {
		parses(t, s, want)
		parses(t, "NOT "+s, applied(impl.OpNot, want))
		parses(t, s+" OR d", applied(impl.OpOr, want, d))
		parses(t, "d AND "+s, applied(impl.OpAnd, d, want))
	}
}

func numbersTo(n int) []impl.Expr {
	var list []impl.Expr
	for i := 1; i <= n; i++ {
		list = append(list, lit(intOf(i)))
	}
	return list
}

// TestParseBetweenAndAnd tells the AND of a BETWEEN from the operator.
func TestParseBetweenAndAnd(t *testing.T) {
	a, b, c, d, e := column("", "a"), column("", "b"), column("", "c"), column("", "d"), column("", "e")
	between, outside := tested(impl.ExBetween, false, a, b, c), tested(impl.ExBetween, true, c, d, e)
	parses(t, "a BETWEEN b AND c AND d", applied(impl.OpAnd, between, d))
	parses(t, "d AND a BETWEEN b AND c", applied(impl.OpAnd, d, between))
	parses(t, "d AND a BETWEEN b AND c AND e", applied(impl.OpAnd, applied(impl.OpAnd, d, between), e))
	parses(t, "a BETWEEN b AND c AND c NOT BETWEEN d AND e", applied(impl.OpAnd, between, outside))
	parses(t, "a BETWEEN b AND c OR d AND e", applied(impl.OpOr, between, applied(impl.OpAnd, d, e)))
	parses(t, "a BETWEEN (b AND c) AND d", tested(impl.ExBetween, false, a, applied(impl.OpAnd, b, c), d))
	parses(t, "a BETWEEN b AND (c AND d)", tested(impl.ExBetween, false, a, b, applied(impl.OpAnd, c, d)))
	parses(t, "a BETWEEN (a BETWEEN b AND c) AND d AND e", applied(impl.OpAnd, tested(impl.ExBetween, false, a, between, d), e))
	parses(t, "NOT a BETWEEN b AND c AND NOT d", applied(impl.OpAnd, applied(impl.OpNot, between), applied(impl.OpNot, d)))
	stops(t, "a BETWEEN b", 3)
	stops(t, "a BETWEEN b AND", 4)
	stops(t, "a BETWEEN b OR c", 3)
	stops(t, "a BETWEEN b , c", 3)
	stops(t, "a BETWEEN b = c AND d", 3)
	stops(t, "a BETWEEN b NOT AND c", 3)
	stops(t, "a BETWEEN b IS NULL AND c", 3)
	stops(t, "a BETWEEN b AND c = d", 5)
	stops(t, "a BETWEEN b AND c BETWEEN d AND e", 5)
	stops(t, "a BETWEEN b BETWEEN c AND d AND e", 3)
	stops(t, "a BETWEEN b AND NOT c", 4)
	stops(t, "a BETWEEN NOT b AND c", 2)
	stops(t, "a BETWEEN AND b", 2)
	stops(t, "a BETWEEN (b AND c)", 7)
	stops(t, "(a BETWEEN b) AND c", 4)
}

// TestParseTestBehindTest has two comparisons or tests at the same level, which no sentence has.
func TestParseTestBehindTest(t *testing.T) {
	tails := []string{"IS NULL", "IS NOT NULL", "BETWEEN b AND c", "NOT BETWEEN b AND c", "IN (b)", "IN (b, c)", "NOT IN (b)", "IN (SELECT * FROM t)", "NOT IN (SELECT * FROM t)"}
	for _, op := range operators[2:8] {
		tails = append(tails, op+" b", op+" - b + c * d || e")
	}
	for _, first := range tails {
		n := len(tokensIn(t, "a "+first))
		for _, second := range tails {
			stops(t, "a "+first+" "+second, n)
			stops(t, "NOT a "+first+" "+second, n+1)
			stops(t, "a OR b AND a + b "+first+" "+second+" OR a", n+6)
			stops(t, "a "+first+" "+strings.Fields(second)[0], n)
			checkTaken(t, tokensIn(t, "(a "+first+") "+second), -1)
			checkTaken(t, tokensIn(t, "a "+first+" AND a "+second), -1)
		}
		for _, op := range operators[8:14] {
			s := "a " + first + " " + op + " d"
			if strings.HasSuffix(first, "NULL") || strings.HasSuffix(first, ")") {
				stops(t, s, n)
			} else {
				checkTaken(t, tokensIn(t, s), -1)
			}
		}
		stops(t, "a "+first+" d", n)
		stops(t, "a "+first+" NOT", n)
		stops(t, "a "+first+" NOT d", n)
		stops(t, "- a "+first+" )", n+1)
	}
}

func TestParseNotBehindAnOperand(t *testing.T) {
	for _, a := range []string{"a", "t.a", "1", "'x'", "NULL", "(a)", "- a", "a + b", "a || b * c", "NOT a", "b AND a", "EXISTS (SELECT * FROM t)"} {
		n := len(tokensIn(t, a))
		stops(t, a+" NOT", n+1)
		for _, x := range alphabet() {
			s := a + " NOT " + impl.TokenText(x)
			switch x {
			case key("IN", 0), key("BETWEEN", 0):
				stops(t, s, n+2)
			default:
				stops(t, s, n+1)
				stops(t, s+" NULL", n+1)
			}
		}
		stops(t, a+" IS NOT", n+2)
		stops(t, a+" IS NOT NOT NULL", n+2)
		stops(t, a+" IS TRUE", n+1)
		stops(t, a+" IS NOT IN (b)", n+2)
		stops(t, "("+a+" NOT)", n+2)
	}
	stops(t, "a = b NOT", 3)
	stops(t, "a = b NOT IN (c)", 3)
	stops(t, "a BETWEEN b NOT IN (c) AND d", 3)
	stops(t, "a NULL", 1)
	stops(t, "a NOT NULL", 2)
}

func TestParseLists(t *testing.T) {
	a := column("", "a")
	for n := 1; n <= 40; n++ {
		kids := append([]impl.Expr{a}, numbersTo(n)...)
		numbers := make([]string, n)
		for i := range numbers {
			numbers[i] = strconv.Itoa(i + 1)
		}
		parses(t, "a IN ("+strings.Join(numbers, ",")+")", tested(impl.ExIn, false, kids...))
		parses(t, "a NOT IN ("+strings.Join(numbers, ",")+")", tested(impl.ExIn, true, kids...))
		stops(t, "a IN ("+strings.Join(numbers, ",")+",)", 2+2*n+1)
		stops(t, "a IN ("+strings.Join(numbers, ","), 2+2*n)
	}
	for s, at := range map[string]int{
		"a IN": 2, "a IN b": 2, "a IN ()": 3, "a IN (": 3, "a IN (,b)": 3, "a IN (b c)": 4, "a IN (b,,c)": 5, "a IN (b": 4, "a IN (b, c": 6, "a IN b, c": 2,
		"a IN (*)": 3, "a IN (b AS c)": 4, "a IN ((b, c))": 5, "a NOT IN": 3, "a NOT IN b": 3, "a IN NOT (b)": 2, "a IN (b) c": 5, "a IN (b), c": 5, "IN (a)": 0,
		"a IN (SELECT * FROM t), b": 8, "a IN (SELECT * FROM t, b": 9, "a IN (b, SELECT * FROM t)": 5, "a IN ((SELECT * FROM t))": 4, "a IN (SELECT * FROM t": 7, "a IN SELECT * FROM t": 2,
		"a IN (SELECT)": 4, "a IN (SELECT * FROM t) (SELECT * FROM t)": 8, "a IN (SELECT * FROM t OR b)": 7, "a IN (TRUE, FALSE NOT)": 7,
	} {
		stops(t, s, at)
	}
}

func TestParseExists(t *testing.T) {
	q := starred()
	q.Limit = 1
	parses(t, "EXISTS (SELECT * FROM t LIMIT 1)", exists(q))
	parses(t, "NOT EXISTS (SELECT * FROM t LIMIT 1)", applied(impl.OpNot, exists(q)))
	parses(t, "EXISTS (SELECT * FROM t LIMIT 1) + EXISTS (SELECT * FROM t)", applied(impl.OpAdd, exists(q), exists(starred())))
	parses(t, "EXISTS (SELECT * FROM t) IS NULL", tested(impl.ExIs, false, exists(starred())))
	for s, at := range map[string]int{
		"EXISTS": 1, "EXISTS a": 1, "EXISTS (": 2, "EXISTS ()": 2, "EXISTS (1)": 2, "EXISTS (a)": 2, "EXISTS ((SELECT * FROM t))": 2, "EXISTS SELECT * FROM t": 1, "EXISTS (NOT a)": 2,
		"EXISTS (EXISTS (SELECT * FROM t))": 2, "EXISTS (SELECT * FROM t": 6, "EXISTS (SELECT * FROM t, SELECT": 7, "EXISTS (SELECT * FROM t) a": 7, "EXISTS NOT (SELECT * FROM t)": 1, "EXISTS (DISTINCT": 2,
		"EXISTS (SELECT * FROM t))": 7, "(SELECT * FROM t)": 1, "SELECT * FROM t": 0, "NOT (SELECT * FROM t)": 2, "a = (SELECT * FROM t)": 3,
	} {
		stops(t, s, at)
	}
}

// TestParseParentheses has parentheses around the whole and around every part, several deep.
func TestParseParentheses(t *testing.T) {
	list := append(growths(leaves()...), leaves()...)
	for _, e := range append(list, validExprs()...) {
		tokens := tokensByRules(e, wrappedByRules)
		for n := 1; n <= 5; n++ {
			around := slices.Concat(repeated(sign("(", 0), n), tokens, repeated(sign(")", 0), n))
			if got, bad := impl.TakeExpr(around); bad != -1 || !sameByRules(got, e) {
				t.Errorf("parentheses around %q change its tree to %s, and the index is %d", texts(tokens), described(got), bad)
			}
			checkTaken(t, around[:len(around)-1], len(around)-1)
			checkTaken(t, append(around, sign(")", 0)), len(around))
		}
	}
	random := rand.New(rand.NewSource(120))
	for i := range 600 {
		e := randomExpr(random, 1+i%9)
		// The choice must be the same at the end of a Kid as at its beginning.
		list := tokensByRules(e, func(e impl.Expr, k int) bool { return wrappedByRules(e, k) || (impl.SizeOf(e)+k+i)%2 == 0 })
		if got, bad := impl.TakeExpr(list); bad != -1 || !sameByRules(got, e) {
			t.Errorf("the tree of %q is %s, and the index is %d", texts(list), described(got), bad)
		}
	}
	for s, at := range map[string]int{
		"()": 1, ")": 0, "(": 1, "(a": 2, "a)": 1, "(a))": 3, "((a)": 4, "(a, b)": 2, "(*)": 1, "(a AS b)": 2, "a (b)": 1, "(a) (b)": 3, "(a) b": 3, "t.(a)": 2, "(t).a": 3, "(t.)": 3, "(a b)": 2, "a + (": 3, "a + ()": 3, "- ( )": 2,
	} {
		stops(t, s, at)
	}
}

func TestParseItems(t *testing.T) {
	a, sum := column("", "a"), applied(impl.OpAdd, column("t", "b"), lit(intOf(1)))
	rows := []struct {
		s    string
		list []impl.Item
	}{
		{"*", []impl.Item{{Star: true}}},
		{"t.*", []impl.Item{{Star: true, Qual: "t"}}},
		{`"from" . *`, []impl.Item{{Star: true, Qual: "from"}}},
		{"a", items(a)},
		{"t.a", items(column("t", "a"))},
		{"a AS x", []impl.Item{{Expr: a, As: "x"}}},
		{`t.b + 1 AS "as"`, []impl.Item{{Expr: sum, As: "as"}}},
		{"a * a", items(applied(impl.OpMul, a, a))},
		{"t.a * t.a AS y", []impl.Item{{Expr: applied(impl.OpMul, column("t", "a"), column("t", "a")), As: "y"}}},
		{"(a) AS a", []impl.Item{{Expr: a, As: "a"}}},
		{"NOT a OR a AS x", []impl.Item{{Expr: applied(impl.OpOr, applied(impl.OpNot, a), a), As: "x"}}},
		{"*, t.*, a, a AS a, *", []impl.Item{{Star: true}, {Star: true, Qual: "t"}, {Expr: a}, {Expr: a, As: "a"}, {Star: true}}},
		{"a, a AS x, t.b + 1, t.*", []impl.Item{{Expr: a}, {Expr: a, As: "x"}, {Expr: sum}, {Star: true, Qual: "t"}}},
		{"NULL, 'x' AS y, EXISTS (SELECT * FROM t)", []impl.Item{{Expr: lit(null)}, {Expr: lit(textOf("x")), As: "y"}, {Expr: exists(starred())}}},
	}
	for n := 1; n <= 30; n++ {
		rows = append(rows, struct {
			s    string
			list []impl.Item
		}{"a AS b" + strings.Repeat(",*", n-1), append([]impl.Item{{Expr: a, As: "b"}}, repeated(impl.Item{Star: true}, n-1)...)})
	}
	for _, row := range rows {
		q := starred()
		q.Items = row.list
		parsesQuery(t, "SELECT "+row.s+" FROM t", q)
		q.Distinct = true
		parsesQuery(t, "SELECT DISTINCT "+row.s+" FROM t", q)
		stopsQuery(t, "SELECT "+row.s, 1+len(tokensIn(t, row.s)))
		stopsQuery(t, "SELECT "+row.s+", FROM t", 2+len(tokensIn(t, row.s)))
	}
	for s, at := range map[string]int{
		"": 0, "SELECT": 1, "SELECT DISTINCT": 2, "SELECT DISTINCT DISTINCT a": 2, "SELECT FROM t": 1, "SELECT , a FROM t": 1, "SELECT a,, b FROM t": 3, "SELECT a b FROM t": 2, "SELECT a AS FROM t": 3, "SELECT a AS 'x' FROM t": 3,
		"SELECT a AS x y FROM t": 4, "SELECT a AS x AS y FROM t": 4, "SELECT a AS t.x FROM t": 4, "SELECT * AS x FROM t": 2, "SELECT t.* AS x FROM t": 4, "SELECT * a FROM t": 2, "SELECT ** FROM t": 2, "SELECT * + 1 FROM t": 2, "SELECT t.* + 1 FROM t": 4,
		"SELECT t.* * 2 FROM t": 4, "SELECT (*) FROM t": 2, "SELECT (t.*) FROM t": 4, "SELECT -* FROM t": 2, "SELECT -t.* FROM t": 4, "SELECT NOT t.* FROM t": 4, "SELECT a + t.* FROM t": 5, "SELECT a, b + * FROM t": 5, "SELECT a OR t.* FROM t": 5,
		"SELECT t. FROM t": 3, "SELECT t.1 FROM t": 3, "SELECT t.": 3, "SELECT t.*": 4, "SELECT t.a.* FROM t": 4, "SELECT t.a.b FROM t": 4, "SELECT t..* FROM t": 3, "SELECT .* FROM t": 1, "SELECT 1.* FROM t": 2, "SELECT t.** FROM t": 4, "SELECT t.*.a FROM t": 4,
		"SELECT a DESC FROM t": 2, "SELECT ALL * FROM t": 3, "SELECT (SELECT * FROM t) FROM t": 2, "SELECT a) FROM t": 2, "SELECT * * * FROM t": 2, "SELECT a AS *": 3, "SELECT DISTINCT, a FROM t": 2, "(SELECT * FROM t)": 0, "a": 0, "DISTINCT a": 0,
	} {
		stopsQuery(t, s, at)
	}
}

func TestParseSources(t *testing.T) {
	on := []impl.Expr{applied(impl.OpEq, column("t", "a"), column("u", "a"))}
	or := []impl.Expr{applied(impl.OpOr, on[0], column("", "b"))}
	rows := []struct {
		s    string
		from []impl.Source
	}{
		{"t", []impl.Source{{Table: "t"}}},
		{"t AS x", []impl.Source{{Table: "t", As: "x"}}},
		{`"from" AS "on"`, []impl.Source{{Table: "from", As: "on"}}},
		{"t, u", []impl.Source{{Table: "t"}, {Table: "u"}}},
		{"t, u AS y, v", []impl.Source{{Table: "t"}, {Table: "u", As: "y"}, {Table: "v"}}},
		{"t JOIN u ON t.a = u.a", []impl.Source{{Table: "t"}, {Table: "u", On: on}}},
		{"t AS x JOIN u AS y ON t.a = u.a OR b", []impl.Source{{Table: "t", As: "x"}, {Table: "u", As: "y", On: or}}},
		{"t JOIN u ON (t.a = u.a)", []impl.Source{{Table: "t"}, {Table: "u", On: on}}},
		{"t JOIN u ON t.a = u.a, v", []impl.Source{{Table: "t"}, {Table: "u", On: on}, {Table: "v"}}},
		{"t, u JOIN v AS z ON t.a = u.a OR b", []impl.Source{{Table: "t"}, {Table: "u"}, {Table: "v", As: "z", On: or}}},
		{"t JOIN u ON t.a = u.a JOIN v ON t.a = u.a OR b", []impl.Source{{Table: "t"}, {Table: "u", On: on}, {Table: "v", On: or}}},
		{"t, t, t, t, t AS a JOIN t ON t.a = u.a, t", []impl.Source{{Table: "t"}, {Table: "t"}, {Table: "t"}, {Table: "t"}, {Table: "t", As: "a"}, {Table: "t", On: on}, {Table: "t"}}},
	}
	for _, row := range rows {
		q := starred()
		q.From = row.from
		parsesQuery(t, "SELECT * FROM "+row.s, q)
		n := 3 + len(tokensIn(t, row.s))
		for tail, more := range map[string]int{" ,": 1, " JOIN": 1, " JOIN x": 2, " JOIN x AS": 3, " JOIN x ON": 3, " , x AS": 3, " JOIN x AS y": 4} {
			stopsQuery(t, "SELECT * FROM "+row.s+tail, n+more)
			stopsQuery(t, "SELECT * FROM "+row.s+tail+" WHERE a", n+more)
			stopsQuery(t, "SELECT * FROM "+row.s+tail+" ,", n+more)
			stopsQuery(t, "SELECT * FROM "+row.s+tail+" 'x' y", n+more+map[bool]int{true: 1}[strings.HasSuffix(tail, "ON")])
		}
		q.Where, q.Order, q.Limit = or, keys(on...), 2
		parsesQuery(t, "SELECT * FROM "+row.s+" WHERE t.a = u.a OR b ORDER BY t.a = u.a LIMIT 2", q)
	}
	for s, at := range map[string]int{
		"": 3, "WHERE a": 3, "1": 3, "'t'": 3, "*": 3, "(t)": 3, "(SELECT * FROM t)": 3, "t u": 4, "t AS": 5, "t AS 1": 5, "t AS x AS y": 6, "t AS x y": 6, "t.u": 4, "t AS x.y": 6, "t ON a": 4, "t, u ON a": 6, "t,": 5, "t,, u": 5, "t, WHERE a": 5,
		"t JOIN": 5, "t JOIN JOIN u": 5, "t JOIN u": 6, "t JOIN u, v": 6, "t JOIN u WHERE a": 6, "t JOIN u JOIN v ON a": 6, "t JOIN u ON": 7, "t JOIN u ON , v": 7, "t JOIN u ON WHERE a": 7, "t JOIN u ON a b": 8, "t JOIN u ON a AS x": 8, "t JOIN u ON a ON b": 8,
		"t JOIN u ON a ASC": 8, "t JOIN u AS ON a": 7, "t JOIN u ON *": 7, "t JOIN (u) ON a": 5, "JOIN t ON a": 3, ", t": 3, "t FROM u": 4, "t + u": 4, "t JOIN u ON a = b = c": 10, "t SELECT": 4, "t INTO": 4, "t DESC": 4, "t SET": 4,
	} {
		stopsQuery(t, "SELECT * FROM "+s, at)
	}
}

func TestParseWhereOrderAndLimit(t *testing.T) {
	a, and := column("", "a"), applied(impl.OpAnd, column("", "b"), column("", "c"))
	wheres := map[string][]impl.Expr{"": nil, " WHERE a": {a}, " WHERE b AND c": {and}, " WHERE (b AND c)": {and}}
	orders := map[string][]impl.SortKey{
		"": nil, " ORDER BY a": keys(a), " ORDER BY a ASC": keys(a), " ORDER BY a DESC": {{Expr: a, Desc: true}}, " ORDER BY a DESC, b AND c": {{Expr: a, Desc: true}, {Expr: and}},
		" ORDER BY a ASC, b AND c DESC, a, a ASC": {{Expr: a}, {Expr: and, Desc: true}, {Expr: a}, {Expr: a}}, " ORDER BY (a) DESC, (b AND c) ASC": {{Expr: a, Desc: true}, {Expr: and}},
		" ORDER BY a" + strings.Repeat(",a", 29): keys(repeated(a, 30)...),
	}
	limits := map[string]int{"": -1, " LIMIT 0": 0, " LIMIT 1": 1, " LIMIT 42": 42, " LIMIT 9223372036854775807": math.MaxInt}
	for where, list := range wheres {
		for order, sorted := range orders {
			for limit, n := range limits {
				q := selecting(a)
				q.Where, q.Order, q.Limit = list, sorted, n
				parsesQuery(t, "SELECT a FROM t"+where+order+limit, q)
			}
		}
	}
	for s, at := range map[string]int{
		"WHERE": 5, "WHERE ORDER": 5, "WHERE a b": 6, "WHERE a, b": 6, "WHERE a WHERE b": 6, "WHERE *": 5, "WHERE a AS x": 6, "WHERE a DESC": 6, "WHERE a, u": 6, "WHERE a JOIN u ON b": 6, "WHERE t.*": 7,
		"ORDER": 5, "ORDER a": 5, "ORDER BY": 6, "ORDER BY ,": 6, "ORDER BY a,": 8, "ORDER BY a, , b": 8, "ORDER BY a b": 7, "ORDER BY a ASC DESC": 8, "ORDER BY a DESC ASC": 8, "ORDER BY a DESC DESC": 8, "ORDER BY DESC": 6, "ORDER BY *": 6, "ORDER BY a AS x": 7, "ORDER BY a WHERE b": 7,
		"ORDER BY a ORDER BY b": 7, "ORDER BY a DESC b": 8, "ORDER BY LIMIT 1": 6, "ORDER BY BY a": 6, "BY a": 4, "ORDER BY a, LIMIT 1": 8, "ORDER BY a DESC LIMIT": 9, "ORDER BY a DESC + b": 8,
		"LIMIT": 5, "LIMIT a": 5, "LIMIT '1'": 5, "LIMIT - 1": 5, "LIMIT NULL": 5, "LIMIT (1)": 5, "LIMIT 1 2": 6, "LIMIT 1, 2": 6, "LIMIT 1 + 1": 6, "LIMIT 1 WHERE a": 6, "LIMIT 1 ORDER BY a": 6, "LIMIT 1 LIMIT 1": 6, "LIMIT 1 ,": 6, "ASC": 4, "AND a": 4, "OR": 4, "1": 4, ")": 4, "FROM t": 4,
	} {
		stopsQuery(t, "SELECT * FROM t "+s, at)
	}
}

// TestParseExpressionsInEachPlace has expressions of every level in each place of a query and of an expression.
func TestParseExpressionsInEachPlace(t *testing.T) {
	a := column("", "a")
	for _, e := range append(append(growths(leaves()...), leaves()...), wrapping(0), wrapping(3), exists(joinedOn(a)), lit(no)) {
		inside := impl.ExprText(e)
		for i, want := range []string{"SELECT # FROM t", "SELECT * FROM t JOIN u ON #", "SELECT * FROM t WHERE #", "SELECT * FROM t ORDER BY #"} {
			parsesQuery(t, strings.ReplaceAll(want, "#", inside), queriesWith(e)[i])
		}
		q := joinedOn(e)
		q.Items, q.From[1].As, q.Where, q.Order, q.Limit = []impl.Item{{Expr: e, As: "x"}, {Star: true}, {Expr: e}}, "v", []impl.Expr{e}, []impl.SortKey{{Expr: e, Desc: true}, {Expr: e}}, 3
		q.From = append(q.From, impl.Source{Table: "w", On: []impl.Expr{e}}, impl.Source{Table: "z"})
		s := strings.ReplaceAll("SELECT # AS x, *, # FROM t JOIN u AS v ON # JOIN w ON #, z WHERE # ORDER BY # DESC, # ASC LIMIT 3", "#", inside)
		parsesQuery(t, s, q)
		parses(t, "(a) NOT IN(a,"+inside+","+inside+")", tested(impl.ExIn, true, a, a, e, e))
		parses(t, "NOT("+inside+")", applied(impl.OpNot, e))
	}
}

func TestTakenByGrammar(t *testing.T) {
	for _, s := range sentences() {
		checkByGrammar(t, tokensIn(t, s))
	}
	for _, s := range exprSentences() {
		if bad := newChart("or").firstBad(tokensIn(t, s), 0); bad != -1 {
			t.Errorf("%q is no expression, but stops at %d", s, bad)
		}
	}
	for _, s := range querySentences() {
		if bad := newChart("query").firstBad(tokensIn(t, s), 0); bad != -1 {
			t.Errorf("%q is no query, but stops at %d", s, bad)
		}
	}
}

// checkCuts checks every beginning of list: it is a sentence, or it ends before its end.
func checkCuts(t *testing.T, list []impl.Token) {
	t.Helper()
	or, query := newChart("or"), newChart("query")
	for n := range len(list) + 1 {
		checkTaken(t, list[:n], or.firstBad(list[:n], 0))
		checkTakenQuery(t, list[:n], query.firstBad(list[:n], 0))
	}
}

func TestTakenCuts(t *testing.T) {
	for _, s := range sentences() {
		checkCuts(t, tokensIn(t, s))
	}
	for _, s := range exprSentences() {
		list := tokensIn(t, s)
		for n := range list {
			if _, bad := impl.TakeExpr(list[:n]); bad != -1 && bad != n {
				t.Errorf("the first %d tokens of %q stop at %d", n, s, bad)
			}
		}
	}
	for _, s := range querySentences() {
		list := tokensIn(t, s)
		for n := range list {
			if _, bad := impl.TakeQuery(list[:n]); bad != -1 && bad != n {
				t.Errorf("the first %d tokens of %q stop at %d", n, s, bad)
			}
		}
	}
}

// checkVariants checks list with another token in each place, with one more token there, and without each token.
func checkVariants(t *testing.T, list []impl.Token, start string, check func(t *testing.T, list []impl.Token, bad int)) {
	t.Helper()
	c := newChart(start)
	for i := range len(list) + 1 {
		for _, x := range alphabet() {
			more := slices.Insert(slices.Clone(list), i, x)
			check(t, more, c.firstBad(more, i))
			if i < len(list) {
				other := slices.Clone(list)
				other[i] = x
				check(t, other, c.firstBad(other, i))
			}
		}
		if i < len(list) {
			fewer := slices.Delete(slices.Clone(list), i, i+1)
			check(t, fewer, c.firstBad(fewer, i))
			c.cut(i)
			c.add(list[i])
		}
	}
}

func TestTakenWithOtherTokens(t *testing.T) {
	for _, s := range exprSentences() {
		checkVariants(t, tokensIn(t, s), "or", checkTaken)
	}
	for _, s := range querySentences() {
		checkVariants(t, tokensIn(t, s), "query", checkTakenQuery)
	}
}

// visitContinuations checks list and everything that continues it by up to depth tokens. The chart holds the tokens of list.
func visitContinuations(t *testing.T, c *chart, list []impl.Token, depth int, check func(t *testing.T, list []impl.Token, bad int)) int {
	count := 1
	if c.whole() {
		check(t, list, -1)
	} else {
		check(t, list, len(list))
	}
	for _, x := range alphabet() {
		more := append(slices.Clip(list), x)
		switch {
		case !c.add(x):
			check(t, more, len(list))
			continue
		case depth > 0:
			count += visitContinuations(t, c, more, depth-1, check)
		}
		c.cut(len(list))
	}
	return count
}

// TestTakenContinuations has every sequence of tokens behind some beginnings, as long as it begins a sentence.
func TestTakenContinuations(t *testing.T) {
	count := 0
	for _, s := range []string{"", "a", "(a", "NOT a", "a NOT", "a = b", "a BETWEEN b", "a IN (b", "a IN (", "- a * b", "EXISTS (SELECT * FROM t", "EXISTS (SELECT t.a"} {
		c, list := newChart("or"), tokensIn(t, s)
		c.firstBad(list, 0)
		count += visitContinuations(t, c, list, 2, checkTaken)
	}
	for _, s := range []string{"", "SELECT", "SELECT a", "SELECT t.", "SELECT *, a AS x", "SELECT * FROM", "SELECT * FROM t", "SELECT * FROM t AS x", "SELECT * FROM t JOIN u", "SELECT * FROM t JOIN u ON a", "SELECT * FROM t WHERE a", "SELECT * FROM t ORDER BY a", "SELECT * FROM t ORDER BY a DESC", "SELECT * FROM t LIMIT 1"} {
		c, list := newChart("query"), tokensIn(t, s)
		c.firstBad(list, 0)
		count += visitContinuations(t, c, list, 2, checkTakenQuery)
	}
	if count < 2000 {
		t.Errorf("only %d beginnings of sentences were tried", count)
	}
}

func TestTakenWithoutTokens(t *testing.T) {
	for _, list := range [][]impl.Token{nil, {}, make([]impl.Token, 0, 5)} {
		checkTaken(t, list, 0)
		checkTakenQuery(t, list, 0)
	}
	for _, s := range []string{"", " ", "\n\t\r ", "-- a", "/* a */", "  /* a */ -- b\n "} {
		checkFault(t, s, impl.FtSyntax, len(s))
		checkQueryFault(t, s, impl.FtSyntax, len(s))
	}
}

// TestTakenWithInvalidTokens has tokens that no lexer returns in each place of a sentence.
func TestTakenWithInvalidTokens(t *testing.T) {
	invalid := invalidTokens()
	for _, x := range alphabet() {
		for _, kind := range []int{-1, 0, 1, 2, 3, 4, 5, 6, 1 + 1<<32} {
			if y := (impl.Token{Kind: kind, Text: x.Text}); !impl.TokenOk(y) {
				invalid = append(invalid, y)
			}
		}
	}
	check := func(list []impl.Token, check func(t *testing.T, list []impl.Token, bad int)) {
		for i := range len(list) + 1 {
			for _, x := range invalid {
				check(t, append(slices.Clone(list[:i]), x), i)
				check(t, slices.Insert(slices.Clone(list), i, x), i)
				if i < len(list) {
					check(t, slices.Concat(list[:i], []impl.Token{x}, list[i+1:]), i)
				}
			}
		}
	}
	check(tokensIn(t, "NOT (t.a + - 1 = 'x') AND b IS NOT NULL OR c NOT BETWEEN TRUE AND FALSE"), checkTaken)
	check(tokensIn(t, "a NOT IN (1, NULL) OR EXISTS (SELECT * FROM t)"), checkTaken)
	check(tokensIn(t, "SELECT DISTINCT t.*, a AS x FROM t AS y JOIN u ON b, v WHERE c ORDER BY d DESC LIMIT 1"), checkTakenQuery)
}

// TestTakenWithEveryValidToken has valid tokens with any text where one of their kind can stand.
func TestTakenWithEveryValidToken(t *testing.T) {
	for _, x := range validTokens() {
		one, named := []impl.Token{x}, []impl.Token{name("q", 0), sign(".", 0), x}
		switch x.Kind {
		case impl.TkName:
			checkTaken(t, one, -1)
			checkTaken(t, named, -1)
			if e, _ := impl.TakeExpr(named); !sameByRules(e, column("q", x.Text)) {
				t.Errorf("the tree of %v is %s", named, described(e))
			}
			list := append(tokensIn(t, "SELECT"), x, sign(".", 0), sign("*", 0), key("FROM", 0), x, key("AS", 0), x, key("WHERE", 0), x, sign(".", 0), x)
			want := impl.Query{Items: []impl.Item{{Star: true, Qual: x.Text}}, From: []impl.Source{{Table: x.Text, As: x.Text}}, Where: []impl.Expr{column(x.Text, x.Text)}, Limit: -1}
			if q, bad := impl.TakeQuery(list); bad != -1 || !sameByRules(q, want) {
				t.Errorf("the tree of %v is %s", list, described(q))
			}
		case impl.TkText:
			if e, bad := impl.TakeExpr(one); bad != -1 || !sameByRules(e, lit(textOf(x.Text))) {
				t.Errorf("the tree of %v is %s", one, described(e))
			}
			checkTaken(t, named, 2)
			checkTakenQuery(t, append(tokensIn(t, "SELECT * FROM t LIMIT"), x), 5)
			checkTakenQuery(t, append(tokensIn(t, "SELECT * FROM"), x), 3)
		case impl.TkInt:
			n, _ := strconv.Atoi(x.Text)
			if e, bad := impl.TakeExpr(one); bad != -1 || !sameByRules(e, lit(intOf(n))) {
				t.Errorf("the tree of %v is %s", one, described(e))
			}
			if q, bad := impl.TakeQuery(append(tokensIn(t, "SELECT * FROM t LIMIT"), x)); bad != -1 || q.Limit != n {
				t.Errorf("the limit of %v is %d", x, q.Limit)
			}
			checkTaken(t, named, 2)
		}
		checkByGrammar(t, one)
		checkByGrammar(t, named)
	}
}

// TestTakenAtHasNoInfluence gives the same tokens other offsets.
func TestTakenAtHasNoInfluence(t *testing.T) {
	random := rand.New(rand.NewSource(121))
	for _, s := range append(sentences(), "a b", "a NOT", "", "(a", "SELECT t.", "a = b = c", "SELECT * FROM t LIMIT", "SELECT * FROM t LIMIT a") {
		list := tokensIn(t, s)
		e, bad := impl.TakeExpr(list)
		q, badQuery := impl.TakeQuery(list)
		for _, at := range []func() int{func() int { return -1 }, func() int { return 5 }, func() int { return math.MinInt }, func() int { return random.Intn(2000) - 1000 }, random.Int} {
			for i := range list {
				list[i].At = at()
			}
			if got, index := impl.TakeExpr(list); index != bad || !sameByRules(got, e) {
				t.Errorf("other offsets change the expression %q", s)
			}
			if got, index := impl.TakeQuery(list); index != badQuery || !sameByRules(got, q) {
				t.Errorf("other offsets change the query %q", s)
			}
		}
	}
}

// TestTakenTreesBeyondTheLimits has trees that are not valid, which TakeExpr and TakeQuery return all the same.
func TestTakenTreesBeyondTheLimits(t *testing.T) {
	a := column("", "a")
	wide := tested(impl.ExIn, true, repeated(a, 30)...)
	list := []impl.Expr{chain(24), chain(25), chain(100), bush(200), bush(201), bush(999), tested(impl.ExIn, false, repeated(a, 9)...), tested(impl.ExIn, false, repeated(a, 10)...), wide, nested(60, a, true), wrapped(60, true)}
	for _, n := range []int{12, 13, 40} {
		items, order := selecting(repeated(a, n)...), starred()
		order.Order = keys(repeated(a, n)...)
		list = append(list, exists(items), exists(order), inSub(true, a, items))
	}
	for n := 1; n <= 9; n++ {
		q := starred()
		q.From = repeated(impl.Source{Table: "t", On: []impl.Expr{a}}, n)
		q.From[0].On = nil
		list = append(list, exists(q))
	}
	for _, e := range list {
		tokens := tokensByRules(e, wrappedByRules)
		if got, bad := impl.TakeExpr(tokens); bad != -1 || !sameByRules(got, e) {
			t.Errorf("TakeExpr is %d at the expression %s", bad, described(e))
		}
		for _, q := range append(queriesWith(e), e.Sub...) {
			tokens = queryTokensByRules(q)
			if got, bad := impl.TakeQuery(tokens); bad != -1 || !sameByRules(got, q) {
				t.Errorf("TakeQuery is %d at the query %s", bad, described(q))
			}
		}
		if s := impl.Spaced(tokensByRules(e, wrappedByRules)); s != "" {
			parses(t, s, e)
		}
	}
}

// longTokens repeats tokens n times.
func longTokens(t *testing.T, s string, n int) []impl.Token {
	t.Helper()
	return slices.Repeat(tokensIn(t, s), n)
}

// checkLong checks a very long sentence, and what comes before it ends. Neither the tokens nor the tree are described.
func checkLong(t *testing.T, what string, list []impl.Token, want impl.Expr) {
	t.Helper()
	if e, bad := impl.TakeExpr(list); bad != -1 || !impl.SameExpr(e, want) {
		t.Errorf("TakeExpr is %d at a very long sentence with %s", bad, what)
	}
	if e, bad := impl.TakeExpr(append(slices.Clip(list), sign(")", 0))); bad != len(list) || !sameByRules(e, impl.Expr{}) {
		t.Errorf("TakeExpr is %d at a parenthesis behind %d tokens with %s", bad, len(list), what)
	}
	query := slices.Concat(tokensIn(t, "SELECT a FROM t WHERE"), list, tokensIn(t, "LIMIT 1"))
	q := selecting(column("", "a"))
	q.Where, q.Limit = []impl.Expr{want}, 1
	if got, bad := impl.TakeQuery(query); bad != -1 || !impl.SameQuery(got, q) {
		t.Errorf("TakeQuery is %d at a very long sentence with %s", bad, what)
	}
	if got, bad := impl.TakeQuery(query[:len(query)-1]); bad != len(query)-1 || !sameByRules(got, impl.Query{}) {
		t.Errorf("TakeQuery is %d at the end of a very long sentence with %s", bad, what)
	}
}

// TestTakenVeryDeep has sentences for which a stack that ends early would not suffice if a function called itself for each part.
func TestTakenVeryDeep(t *testing.T) {
	defer debug.SetMaxStack(debug.SetMaxStack(1 << 22))
	const n = 100000
	a := column("", "a")
	left, right, list, nots, negs, between := a, a, a, a, a, a
	for range n {
		left, right = applied(impl.OpSub, left, a), applied(impl.OpSub, a, right)
		list, between = tested(impl.ExIn, false, a, a, list), tested(impl.ExBetween, true, a, between, a)
		nots, negs = applied(impl.OpNot, nots), applied(impl.OpNeg, negs)
	}
	one := tokensIn(t, "a")
	checkLong(t, "left operands", slices.Concat(one, longTokens(t, "- a", n)), left)
	checkLong(t, "right operands", slices.Concat(longTokens(t, "a - (", n), one, longTokens(t, ")", n)), right)
	checkLong(t, "lists", slices.Concat(longTokens(t, "a IN (a,", n), one, longTokens(t, ")", n)), list)
	checkLong(t, "bounds", slices.Concat(longTokens(t, "a NOT BETWEEN (", n), one, longTokens(t, ") AND a", n)), between)
	checkLong(t, "NOT", slices.Concat(longTokens(t, "NOT", n), one), nots)
	checkLong(t, "-", slices.Concat(longTokens(t, "-", n), one), negs)
	checkLong(t, "parentheses", slices.Concat(longTokens(t, "(", n), one, longTokens(t, ")", n)), a)
	for _, s := range []string{"(", "NOT", "-", "a IN (", "a - (", "EXISTS (SELECT", "EXISTS (SELECT * FROM t WHERE", "a NOT IN (SELECT * FROM t ORDER BY"} {
		tokens := longTokens(t, s, n)
		if _, bad := impl.TakeExpr(tokens); bad != len(tokens) {
			t.Errorf("TakeExpr is %d at %d tokens without an end", bad, len(tokens))
		}
	}
}

func TestTakenVeryDeepQueries(t *testing.T) {
	defer debug.SetMaxStack(debug.SetMaxStack(1 << 22))
	const n = 20000
	a := column("", "a")
	for i, s := range []string{"SELECT # FROM t", "SELECT * FROM t JOIN u ON #", "SELECT * FROM t WHERE #", "SELECT * FROM t ORDER BY #"} {
		before, after, _ := strings.Cut(s, "#")
		all, in := a, a
		for range n {
			all, in = exists(queriesWith(all)[i]), inSub(true, a, queriesWith(in)[i])
		}
		one := tokensIn(t, "a")
		checkLong(t, s, slices.Concat(longTokens(t, "EXISTS ("+before, n), one, longTokens(t, after+")", n)), all)
		checkLong(t, s, slices.Concat(longTokens(t, "a NOT IN ("+before, n), one, longTokens(t, after+")", n)), in)
	}
}

func TestTakenVeryWide(t *testing.T) {
	const n = 100000
	a := column("", "a")
	items, order, from := selecting(repeated(a, n)...), starred(), starred()
	order.Order = keys(repeated(a, n)...)
	from.From = repeated(impl.Source{Table: "t"}, n)
	checkLong(t, "a list", slices.Concat(tokensIn(t, "a IN (a"), longTokens(t, ", a", n-2), tokensIn(t, ")")), tested(impl.ExIn, false, repeated(a, n)...))
	checkLong(t, "items", slices.Concat(tokensIn(t, "EXISTS (SELECT a"), longTokens(t, ", a", n-1), tokensIn(t, "FROM t)")), exists(items))
	checkLong(t, "sources", slices.Concat(tokensIn(t, "EXISTS (SELECT * FROM t"), longTokens(t, ", t", n-1), tokensIn(t, ")")), exists(from))
	checkLong(t, "keys", slices.Concat(tokensIn(t, "EXISTS (SELECT * FROM t ORDER BY a"), longTokens(t, ", a", n-1), tokensIn(t, ")")), exists(order))
	for i := range n - 1 {
		from.From[i+1].On = []impl.Expr{a}
	}
	checkLong(t, "conditions", slices.Concat(tokensIn(t, "EXISTS (SELECT * FROM t"), longTokens(t, "JOIN t ON a", n-1), tokensIn(t, ")")), exists(from))
}

// TestParseFaults has the offsets of the three faults, and texts with two of them.
func TestParseFaults(t *testing.T) {
	rows := []struct {
		s        string
		code, at int
	}{
		{"a b", 2, 2}, {"a  b", 2, 3}, {"  a\n\tb", 2, 5}, {"a /* c */ b", 2, 10}, {"a -- c\nb", 2, 7}, {"a+", 2, 2}, {"a +  ", 2, 5}, {"a + -- b", 2, 8}, {"a + /* b */", 2, 11}, {"a\n", 0, 0}, {"(a ", 2, 3}, {"(a\n\n", 2, 4},
		{"'a' 'b'", 2, 4}, {"\"a\"\"b\" \"c\"", 2, 7}, {"a NOT   b", 2, 8}, {"a NOT", 2, 5}, {"a NOT ", 2, 6}, {"a=b=c", 2, 3}, {"a<=b>=c", 2, 4}, {"a<==b", 2, 3}, {"a.*", 2, 2}, {"a.", 2, 2}, {". a", 2, 0}, {")", 2, 0}, {"a IN()", 2, 5}, {"EXISTS(1)", 2, 7}, {"a IS b", 2, 5}, {"-", 2, 1}, {"select", 2, 0}, {" SELECT a", 2, 1},
		{"'", 1, 0}, {"a+'", 1, 2}, {"a + \"b", 1, 4}, {"a /* b", 1, 2}, {"a ; b", 1, 2}, {"007", 1, 0}, {"a + 12x", 1, 4}, {"9223372036854775808", 1, 0}, {"-9223372036854775808", 1, 1}, {"a\x00", 1, 1}, {"\"\"", 1, 0}, {long(21), 1, 0}, {"a||'" + long(41) + "'", 1, 3}, {"a|b", 1, 1},
		// The lexer comes first, even if the syntax is wrong before it.
		{"a b '", 1, 4}, {"= ;", 1, 2}, {") 01", 1, 2}, {"a b c /*", 1, 6}, {"a IN(1,2,3,4,5,6,7,8,9) ;", 1, 24}, {"a IN(1,2,3,4,5,6,7,8,9) b ;", 1, 26},
		// The form comes last.
		{"a IN(1,2,3,4,5,6,7,8,9)", 3, 0}, {"  a IN(1,2,3,4,5,6,7,8,9)  ", 3, 0}, {"a IN(1,2,3,4,5,6,7,8,9) b", 2, 24}, {"a IN(1,2,3,4,5,6,7,8,9", 2, 22}, {"a IN(1,2,3,4,5,6,7,8,9) OR ", 2, 27}, {"a IN(1,2,3,4,5,6,7,8)", 0, 0},
	}
	for _, row := range rows {
		if row.code == 0 {
			e, _ := readTokens(tokensIn(t, row.s))
			checkParsed(t, row.s, e, impl.Fault{})
		} else {
			checkFault(t, row.s, row.code, row.at)
		}
		switch where := "SELECT*FROM t WHERE "; {
		case row.s == " SELECT a":
			checkQueryFault(t, row.s, impl.FtSyntax, len(row.s))
		case row.code == impl.FtForm:
			checkQueryFault(t, where+row.s, impl.FtForm, 0)
		case row.code != 0:
			checkQueryFault(t, where+row.s, row.code, len(where)+row.at)
		}
	}
	checkQueryFault(t, "a", impl.FtSyntax, 0)
	checkQueryFault(t, "  a", impl.FtSyntax, 2)
	checkQueryFault(t, "select * from t limit 1 \n;", impl.FtLex, 25)
	checkQueryFault(t, "select * from t limit 01", impl.FtLex, 22)
	checkQueryFault(t, "select * from t limit", impl.FtSyntax, 21)
	checkQueryFault(t, "select * from t limit \n", impl.FtSyntax, 23)
	checkQueryFault(t, "select * from t,u,v,w", impl.FtForm, 0)
	checkQueryFault(t, "select * from t,u,v,w,", impl.FtSyntax, 22)
	checkQueryFault(t, "select * from t,u,v,w '", impl.FtLex, 22)
}

// checkForm checks the text of e, and of queries with it, which are valid or not.
func checkForm(t *testing.T, e impl.Expr, valid bool) {
	t.Helper()
	if okByRules(e) != valid {
		t.Errorf("the validity is %v at %s", !valid, described(e))
	}
	s := impl.Spaced(tokensByRules(e, wrappedByRules))
	if valid {
		checkParsed(t, s, e, impl.Fault{})
	} else {
		checkFault(t, s, impl.FtForm, 0)
	}
	for _, q := range queriesWith(e) {
		checkQueryForm(t, q, valid)
	}
}

func checkQueryForm(t *testing.T, q impl.Query, valid bool) {
	t.Helper()
	s := impl.Spaced(queryTokensByRules(q))
	if valid {
		checkParsedQuery(t, s, q, impl.Fault{})
	} else {
		checkQueryFault(t, s, impl.FtForm, 0)
	}
}

func TestParseLimits(t *testing.T) {
	a := column("", "a")
	for n := 20; n <= 30; n++ {
		checkForm(t, chain(n), n <= 24)
		checkForm(t, nested(n, a, true), n <= 24)
		checkForm(t, nestedIn(a, impl.OpNeg, n-1), n <= 24)
		checkForm(t, wrapped(n-1, false), n <= 24)
	}
	for n := 195; n <= 205; n++ {
		checkForm(t, bush(n), n <= 200)
		checkForm(t, exists(selecting(bush(n-1))), n <= 200)
		checkForm(t, inSub(true, bush(n-101), queriesWith(bush(100))[3]), n <= 200)
	}
	for n := 1; n <= 20; n++ {
		checkForm(t, tested(impl.ExIn, n%2 == 0, repeated(a, n+1)...), n <= 8)
		stars, order := starred(), starred()
		stars.Items = repeated(impl.Item{Star: true}, n)
		order.Order = keys(repeated(a, n)...)
		from := starred()
		from.From = repeated(impl.Source{Table: "t"}, n)
		for _, row := range []struct {
			q     impl.Query
			valid bool
		}{{selecting(repeated(a, n)...), n <= 12}, {stars, n <= 12}, {order, n <= 12}, {from, n <= 3}} {
			checkQueryForm(t, row.q, row.valid)
			checkForm(t, exists(row.q), row.valid)
			checkForm(t, inSub(false, a, row.q), row.valid)
		}
	}
	checkQueryForm(t, selecting(bush(100), bush(100)), true)
	checkQueryForm(t, selecting(bush(100), bush(101)), false)
}

// TestParseLongTexts has texts around the limit MaxSource.
func TestParseLongTexts(t *testing.T) {
	a := column("", "a")
	for n := 1990; n <= 2010; n++ {
		fault := impl.Fault{}
		if n > 2000 {
			fault = impl.Fault{Code: impl.FtLex, At: 2000}
		}
		for _, s := range []string{"a" + strings.Repeat(" ", n-1), strings.Repeat("\n", n-1) + "a", "a--" + strings.Repeat("x", n-3), strings.Repeat(" ", n-5) + "(a ) "} {
			if n > 2000 {
				checkParsed(t, s, impl.Expr{}, fault)
			} else {
				checkParsed(t, s, a, fault)
			}
		}
		s := "SELECT*FROM t" + strings.Repeat(" ", n-13)
		if n > 2000 {
			checkQueryFault(t, s, impl.FtLex, 2000)
			checkFault(t, "'"+strings.Repeat(" ", n-1), impl.FtLex, 2000)
			checkFault(t, "a b"+strings.Repeat(" ", n-3), impl.FtLex, 2000)
		} else {
			checkParsedQuery(t, s, starred(), fault)
			checkFault(t, "'"+strings.Repeat(" ", n-1), impl.FtLex, 0)
			checkFault(t, "a b"+strings.Repeat(" ", n-3), impl.FtSyntax, 2)
			checkFault(t, "a +"+strings.Repeat(" ", n-3), impl.FtSyntax, n)
			checkFault(t, strings.Repeat("(", n), impl.FtSyntax, n)
			checkQueryFault(t, "SELECT*FROM"+strings.Repeat(" ", n-11), impl.FtSyntax, n)
		}
	}
	checkFault(t, strings.Repeat("'", 1<<20), impl.FtLex, 2000)
	checkQueryFault(t, strings.Repeat("SELECT ", 1<<20), impl.FtLex, 2000)
	checkFault(t, strings.Repeat("NOT ", 499)+"a", impl.FtForm, 0)
	checkParsed(t, strings.Repeat("(", 999)+"a"+strings.Repeat(")", 999), a, impl.Fault{})
}

// checkRoundTrip expects that the texts of e are parsed to e, unless they are too long.
func checkRoundTrip(t *testing.T, e impl.Expr) {
	t.Helper()
	if got, bad := impl.TakeExpr(impl.ExprTokens(e)); bad != -1 || !sameByRules(got, e) {
		t.Errorf("TakeExpr is %d at the tokens of %s", bad, described(e))
	}
	for _, s := range []string{impl.ExprText(e), impl.FullText(e), impl.Loose(impl.ExprTokens(e))} {
		if s != "" {
			checkParsed(t, s, e, impl.Fault{})
		}
	}
}

func checkQueryRoundTrip(t *testing.T, q impl.Query) {
	t.Helper()
	list := impl.QueryTokens(q)
	if got, bad := impl.TakeQuery(list); bad != -1 || !sameByRules(got, q) {
		t.Errorf("TakeQuery is %d at the tokens of %s", bad, described(q))
	}
	for _, s := range []string{impl.Spaced(list), impl.Loose(list)} {
		if s != "" {
			checkParsedQuery(t, s, q, impl.Fault{})
		}
	}
}

func TestRoundTripsOfValidTrees(t *testing.T) {
	for _, e := range append(validExprs(), wrapping(0), wrapping(9), bush(200), chain(24), exists(full()), wrapped(23, false), wrapped(18, true)) {
		checkRoundTrip(t, e)
		for _, q := range queriesWith(e) {
			if queryOkByRules(q) {
				checkQueryRoundTrip(t, q)
			}
		}
	}
	checkQueryRoundTrip(t, full())
	for _, kid := range append(growths(leaves()...), leaves()...) {
		for _, parent := range growths(leaves()...) {
			for k := range parent.Kids {
				e := copied(parent)
				e.Kids[k] = kid
				checkRoundTrip(t, e)
				checkQueryRoundTrip(t, queriesWith(e)[k%4])
			}
		}
	}
}

func TestRoundTripsOfRandomTrees(t *testing.T) {
	random := rand.New(rand.NewSource(122))
	odd := oddNames()
	pick := func() string { return odd[random.Intn(len(odd))] }
	count := 0
	for i := range 1500 {
		e, q := randomExpr(random, 1+i%13), randomQuery(random, 1+i%6)
		if i%2 == 0 {
			respell(reflect.ValueOf(&e).Elem(), pick)
			respell(reflect.ValueOf(&q).Elem(), pick)
		}
		if okByRules(e) {
			checkRoundTrip(t, e)
			count++
		}
		if queryOkByRules(q) {
			checkQueryRoundTrip(t, q)
			count++
		}
	}
	if count < 1500 {
		t.Errorf("only %d random trees are valid", count)
	}
}

// TestTakenRandomTokens changes some tokens of random trees, which may be invalid, and compares with the chart.
func TestTakenRandomTokens(t *testing.T) {
	random := rand.New(rand.NewSource(123))
	letters, count := alphabet(), map[bool]int{}
	for i := range 1500 {
		lists := [][]impl.Token{tokensByRules(randomExpr(random, 1+i%5), wrappedByRules), queryTokensByRules(randomQuery(random, 1+i%3))}
		for j, list := range lists {
			for range random.Intn(3) {
				at := random.Intn(len(list))
				switch x := letters[random.Intn(len(letters))]; random.Intn(4) {
				case 0:
					list[at] = x
				case 1:
					list = slices.Insert(list, at, x)
				case 2:
					list[at] = list[random.Intn(len(list))]
				default:
					list = slices.Delete(list, at, min(at+1+random.Intn(2), len(list)-1))
				}
			}
			start, check := "or", checkTaken
			if j == 1 {
				start, check = "query", checkTakenQuery
			}
			bad := newChart(start).firstBad(list, 0)
			check(t, list, bad)
			count[bad == -1]++
		}
	}
	if count[true] < 800 || count[false] < 800 {
		t.Errorf("%d random sequences are sentences and %d are not", count[true], count[false])
	}
}

// faultByRules returns the fault of a text, with the index from the chart and the validity of the tree.
func faultByRules(s, start string, valid func(list []impl.Token) bool) impl.Fault {
	list, bad := lexByRules(s)
	if bad >= 0 {
		return impl.Fault{Code: 1, At: bad}
	}
	switch bad = newChart(start).firstBad(list, 0); {
	case bad == len(list):
		return impl.Fault{Code: 2, At: len(s)}
	case bad >= 0:
		return impl.Fault{Code: 2, At: list[bad].At}
	case !valid(list):
		return impl.Fault{Code: 3}
	}
	return impl.Fault{}
}

func exprOfTokens(list []impl.Token) impl.Expr {
	e, _ := readTokens(withoutOffsets(list))
	return e
}

func queryOfTokens(list []impl.Token) impl.Query {
	q, _ := readQueryTokens(withoutOffsets(list))
	return q
}

func withoutOffsets(list []impl.Token) []impl.Token {
	list = slices.Clone(list)
	for i := range list {
		list[i].At = 0
	}
	return list
}

// checkTextByRules checks ParseExpr and ParseQuery of any text.
func checkTextByRules(t *testing.T, s string, count map[int]int) {
	t.Helper()
	list, _ := lexByRules(s)
	e, q := impl.Expr{}, impl.Query{}
	fault := faultByRules(s, "or", func(list []impl.Token) bool { return okByRules(exprOfTokens(list)) })
	if count[fault.Code]++; fault.Code == 0 {
		e = exprOfTokens(list)
	}
	checkParsed(t, s, e, fault)
	fault = faultByRules(s, "query", func(list []impl.Token) bool { return queryOkByRules(queryOfTokens(list)) })
	if count[fault.Code]++; fault.Code == 0 {
		q = queryOfTokens(list)
	}
	checkParsedQuery(t, s, q, fault)
}

// TestParseRandomTexts changes single bytes of texts.
func TestParseRandomTexts(t *testing.T) {
	random := rand.New(rand.NewSource(124))
	all, count := sentences(), map[int]int{}
	all = append(all, strings.Repeat("NOT ", 24)+"a", "a IN (1,2,3,4,5,6,7,8,9)", "SELECT * FROM t,u,v,w", "SELECT *"+strings.Repeat(",*", 12)+" FROM t")
	bytes := " \n\"'()*+-,./%=<>|aN_19;\x00\xff"
	for _, s := range all {
		checkTextByRules(t, s, count)
		checkTextByRules(t, strings.ToLower(s), count)
		for range 40 {
			list, at := []byte(s), random.Intn(len(s))
			switch random.Intn(3) {
			case 0:
				list[at] = bytes[random.Intn(len(bytes))]
			case 1:
				list = slices.Insert(list, at, bytes[random.Intn(len(bytes))])
			default:
				list = slices.Delete(list, at, at+1)
			}
			checkTextByRules(t, string(list), count)
		}
		for at := range s {
			checkTextByRules(t, s[:at], count)
		}
	}
	for code := range 4 {
		if count[code] < 30 {
			t.Errorf("only %d texts have the fault %d", count[code], code)
		}
	}
}

// TestTokensAreNotChanged has lists with unused capacity, so that an append to one of them is seen too.
func TestTokensAreNotChanged(t *testing.T) {
	random := rand.New(rand.NewSource(125))
	letters := append(alphabet(), invalidTokens()...)
	for _, s := range append(sentences(), "a b", "a NOT", "", "(a", "SELECT t.", "a = b = c", "SELECT * FROM t LIMIT") {
		for range 5 {
			list := tokensIn(t, s)
			roomy := append(slices.Clone(list), repeated(name("spare", 7), 5)...)
			if len(list) > 0 {
				roomy[random.Intn(len(list))] = letters[random.Intn(len(letters))]
			}
			before := slices.Clone(roomy)
			impl.TakeExpr(roomy[:len(list)])
			impl.TakeQuery(roomy[:len(list)])
			if !slices.Equal(roomy, before) {
				t.Errorf("a call changes the tokens of %q", s)
			}
		}
	}
}

// checkParsedMemory expects new memory for each slice of a tree, and for each call.
func checkParsedMemory[T any](t *testing.T, what string, parse func() T) {
	t.Helper()
	first, second := parse(), parse()
	own, other := spansOf(reflect.ValueOf(first)), spansOf(reflect.ValueOf(second))
	for i, a := range own {
		if slices.ContainsFunc(own[:i], a.overlaps) || slices.ContainsFunc(other, a.overlaps) {
			t.Errorf("two slices of the tree of %q share memory", what)
		}
	}
	overwrite(reflect.ValueOf(&first).Elem())
	if !sameByRules(second, parse()) {
		t.Errorf("a change of the tree of %q changes another one", what)
	}
}

func TestParsedTreesHaveTheirOwnMemory(t *testing.T) {
	for _, s := range exprSentences() {
		list := tokensIn(t, s)
		checkParsedMemory(t, s, func() impl.Expr { e, _ := impl.TakeExpr(list); return e })
		checkParsedMemory(t, s, func() impl.Expr { e, _ := impl.ParseExpr(s); return e })
	}
	for _, s := range querySentences() {
		list := tokensIn(t, s)
		checkParsedMemory(t, s, func() impl.Query { q, _ := impl.TakeQuery(list); return q })
		checkParsedMemory(t, s, func() impl.Query { q, _ := impl.ParseQuery(s); return q })
	}
}
