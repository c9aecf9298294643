package tests

import (
	"math/rand"
	"reflect"
	"runtime/debug"
	"slices"
	"strings"
	"testing"

	"loop.example/g00495/impl"
)

// checkStmtTokens expects the tokens of the text want, all with the offset 0.
func checkStmtTokens(t *testing.T, s impl.Stmt, want string) {
	t.Helper()
	if got := impl.StmtTokens(s); !slices.Equal(got, tokensIn(t, want)) {
		t.Errorf("StmtTokens is %q %v, want %q at %s", impl.Loose(got), got, want, described(s))
	}
}

// checkStmtTexts expects the spaced text short with as few parentheses as possible, and full with all of them.
func checkStmtTexts(t *testing.T, s impl.Stmt, short, full string) {
	t.Helper()
	if got := impl.StmtText(s); got != short {
		t.Errorf("StmtText is %q, want %q at %s", got, short, described(s))
	}
	if got := impl.StmtFull(s); got != full {
		t.Errorf("StmtFull is %q, want %q at %s", got, full, described(s))
	}
}

// checkUnwrittenStmt expects no tokens and no text, since s is not valid.
func checkUnwrittenStmt(t *testing.T, s impl.Stmt) {
	t.Helper()
	if list := impl.StmtTokens(s); list != nil {
		t.Errorf("StmtTokens is %v at %s", list, described(s))
	}
	checkStmtTexts(t, s, "", "")
}

// The rules of the document, sentence by sentence.

func (s *scribe) stmt(x impl.Stmt) {
	switch x.Kind {
	case impl.StSelect:
		s.query(x.Query)
	case impl.StInsert:
		s.keys("INSERT", "INTO")
		s.put(name(x.Table, 0))
		s.keys("VALUES")
		for i, row := range x.Rows {
			s.comma(i)
			s.row(row)
		}
	case impl.StUpdate:
		s.keys("UPDATE")
		s.put(name(x.Table, 0))
		s.keys("SET")
		for i, col := range x.Cols {
			s.comma(i)
			s.put(name(col, 0), sign("=", 0))
			s.expr(x.Sets[i])
		}
		s.first("WHERE", x.Where)
	case impl.StDelete:
		s.keys("DELETE", "FROM")
		s.put(name(x.Table, 0))
		s.first("WHERE", x.Where)
	}
}

func (s *scribe) row(list []impl.Expr) {
	s.put(sign("(", 0))
	for i, e := range list {
		s.comma(i)
		s.expr(e)
	}
	s.put(sign(")", 0))
}

func stmtTokensByRules(x impl.Stmt, paren func(e impl.Expr, k int) bool) []impl.Token {
	s := scribe{paren: paren}
	s.stmt(x)
	return s.list
}

// stmt reads a statement by the grammar of chapter 13.
func (r *scanner) stmt() impl.Stmt {
	switch {
	case r.key("INSERT"):
		r.must(r.key("INTO"))
		s := impl.Stmt{Kind: impl.StInsert, Table: r.text(impl.TkName)}
		r.must(r.key("VALUES"))
		s.Rows = [][]impl.Expr{r.row()}
		for r.sign(",") {
			s.Rows = append(s.Rows, r.row())
		}
		return s
	case r.key("UPDATE"):
		s := impl.Stmt{Kind: impl.StUpdate, Table: r.text(impl.TkName)}
		r.must(r.key("SET"))
		r.set(&s)
		for r.sign(",") {
			r.set(&s)
		}
		s.Where = r.where()
		return s
	case r.key("DELETE"):
		r.must(r.key("FROM"))
		return impl.Stmt{Kind: impl.StDelete, Table: r.text(impl.TkName), Where: r.where()}
	}
	return selectStmt(r.query())
}

func (r *scanner) row() []impl.Expr {
	r.must(r.sign("("))
	list := []impl.Expr{r.or()}
	for r.sign(",") {
		list = append(list, r.or())
	}
	r.must(r.sign(")"))
	return list
}

func (r *scanner) set(s *impl.Stmt) {
	s.Cols = append(s.Cols, r.text(impl.TkName))
	r.must(r.sign("="))
	s.Sets = append(s.Sets, r.or())
}

func (r *scanner) where() []impl.Expr {
	if r.key("WHERE") {
		return []impl.Expr{r.or()}
	}
	return nil
}

func readStmtTokens(list []impl.Token) (impl.Stmt, bool) {
	r := scanner{list: list}
	s := r.stmt()
	return s, !r.bad && len(r.list) == 0
}

// groupingsIn returns the indices of the parentheses in the tokens of s that open no row, no list and no query.
func groupingsIn(s impl.Stmt, list []impl.Token) []int {
	depth, opensRow := 0, map[int]bool{}
	for i, x := range list {
		switch x {
		case sign("(", 0):
			opensRow[i] = depth == 0 && s.Kind == impl.StInsert
			depth++
		case sign(")", 0):
			depth--
		}
	}
	return slices.DeleteFunc(groupings(list), func(i int) bool { return opensRow[i] })
}

func stmtWrapsByRules(s impl.Stmt) int {
	count := 0
	for _, e := range exprsByRules(s) {
		count += wrapsByRules(e)
	}
	return count
}

// checkStmtReadBack checks that the tokens of s are those of the rules, and that the grammar reads s from them, but not without one of their pairs.
func checkStmtReadBack(t *testing.T, s impl.Stmt) {
	t.Helper()
	list := impl.StmtTokens(s)
	if !slices.Equal(list, stmtTokensByRules(s, wrappedByRules)) {
		t.Errorf("the tokens %q are not those of the rules at %s", impl.Loose(list), described(s))
	}
	if back, ok := readStmtTokens(list); !ok || !sameByRules(back, s) {
		t.Errorf("%s is not read back from the tokens %q", described(s), impl.Loose(list))
	}
	pairs := groupingsIn(s, list)
	if len(pairs) != stmtWrapsByRules(s) {
		t.Errorf("there are %d pairs of grouping parentheses and %d wrapped Kids in %q", len(pairs), stmtWrapsByRules(s), impl.Loose(list))
	}
	for _, open := range pairs {
		if back, ok := readStmtTokens(withoutPair(list, open)); ok && sameByRules(back, s) {
			t.Errorf("the parenthesis at %d is not needed in %q", open, impl.Loose(list))
		}
	}
	checkStmtTextsByRules(t, s)
}

// checkStmtTextsByRules checks both texts of s. They are lexed to their tokens unless they are too long.
func checkStmtTextsByRules(t *testing.T, s impl.Stmt) {
	t.Helper()
	short, full := stmtTokensByRules(s, wrappedByRules), stmtTokensByRules(s, fullByRules)
	checkStmtTexts(t, s, impl.Spaced(short), impl.Spaced(full))
	for _, written := range []string{impl.StmtText(s), impl.StmtFull(s)} {
		if written == "" {
			continue
		}
		if back, ok := readStmtTokens(tokensIn(t, written)); !ok || !sameByRules(back, s) {
			t.Errorf("%s is not read back from %q", described(s), written)
		}
	}
}

// checkStmt expects the tokens of the text want, and that s is read back from them.
func checkStmt(t *testing.T, s impl.Stmt, want string) {
	t.Helper()
	checkStmtTokens(t, s, want)
	checkStmtReadBack(t, s)
}

// setting returns an update of the columns a, b and so on.
func setting(sets []impl.Expr, where ...impl.Expr) impl.Stmt {
	s := updateStmt(sets, where...)
	for i := range s.Cols {
		s.Cols[i] = string(rune('a' + i))
	}
	return s
}

func TestSaySelects(t *testing.T) {
	list := []impl.Query{starred(), full(), selecting(chain(3)), joinedOn(wrapping(2))}
	for _, e := range append(append(growths(leaves()...), validExprs()...), wrapping(4)) {
		list = append(list, queriesWith(e)...)
	}
	for _, q := range list {
		s := selectStmt(q)
		if got := impl.StmtTokens(s); !slices.Equal(got, impl.QueryTokens(q)) || len(got) == 0 {
			t.Errorf("StmtTokens is %q, but QueryTokens is %q", impl.Loose(got), impl.Loose(impl.QueryTokens(q)))
		}
		// The text of EXISTS ( Sub ) has the text of the query between its parentheses.
		short, full := impl.ExprText(exists(q)), impl.FullText(exists(q))
		checkStmtTexts(t, s, short[len("EXISTS("):len(short)-1], full[len("EXISTS("):len(full)-1])
		checkStmtReadBack(t, s)
	}
	checkStmt(t, selectStmt(starred()), "SELECT * FROM t")
	checkStmtTexts(t, selectStmt(starred()), "SELECT*FROM t", "SELECT*FROM t")
}

func TestSayDeletes(t *testing.T) {
	a, b := column("", "a"), column("t", "b")
	checkStmt(t, deleteStmt(), "DELETE FROM t")
	if got := impl.StmtTokens(deleteStmt()); !slices.Equal(got, []impl.Token{key("DELETE", 0), key("FROM", 0), name("t", 0)}) {
		t.Errorf("the tokens of a delete are %v", got)
	}
	if got := impl.StmtTokens(deleteStmt(a)); !slices.Equal(got, []impl.Token{key("DELETE", 0), key("FROM", 0), name("t", 0), key("WHERE", 0), name("a", 0)}) {
		t.Errorf("the tokens of a delete with a Where are %v", got)
	}
	checkStmt(t, deleteStmt(applied(impl.OpOr, a, b)), "DELETE FROM t WHERE a OR t.b")
	checkStmt(t, deleteStmt(applied(impl.OpAnd, applied(impl.OpOr, a, b), a)), "DELETE FROM t WHERE (a OR t.b) AND a")
	checkStmt(t, deleteStmt(inSub(true, a, starred())), "DELETE FROM t WHERE a NOT IN (SELECT * FROM t)")
	checkStmtTexts(t, deleteStmt(), "DELETE FROM t", "DELETE FROM t")
	checkStmtTexts(t, deleteStmt(lit(textOf("x"))), "DELETE FROM t WHERE'x'", "DELETE FROM t WHERE'x'")
	checkStmtTexts(t, deleteStmt(exists(starred())), "DELETE FROM t WHERE EXISTS(SELECT*FROM t)", "DELETE FROM t WHERE EXISTS(SELECT*FROM t)")
}

func TestSayInserts(t *testing.T) {
	a, b, one, x := column("", "a"), column("t", "b"), lit(intOf(1)), lit(textOf("x"))
	rows := []struct {
		rows [][]impl.Expr
		want string
	}{
		{[][]impl.Expr{{one}}, "(1)"},
		{[][]impl.Expr{{one, x}}, "(1, 'x')"},
		{[][]impl.Expr{{a, b, one, x, lit(null), lit(yes), lit(no)}}, "(a, t.b, 1, 'x', NULL, TRUE, FALSE)"},
		{[][]impl.Expr{{one}, {x}}, "(1), ('x')"},
		{[][]impl.Expr{{one}, {x}, {a}, {b}, {lit(null)}}, "(1), ('x'), (a), (t.b), (NULL)"},
		{[][]impl.Expr{{one, x}, {a, b}}, "(1, 'x'), (a, t.b)"},
		{[][]impl.Expr{{one}, {x, a, b}, {one}, {a, a}}, "(1), ('x', a, t.b), (1), (a, a)"},
		{[][]impl.Expr{{x, a, b}, {one}}, "('x', a, t.b), (1)"},
		{[][]impl.Expr{repeated(a, 12)}, "(" + strings.Repeat("a,", 11) + "a)"},
		{repeated(repeated(one, 12), 5), strings.Repeat("("+strings.Repeat("1,", 11)+"1),", 4) + "(" + strings.Repeat("1,", 11) + "1)"},
	}
	for _, row := range rows {
		s := insertStmt(row.rows...)
		checkStmt(t, s, "INSERT INTO t VALUES "+row.want)
		text := impl.Spaced(tokensIn(t, "INSERT INTO t VALUES "+row.want))
		checkStmtTexts(t, s, text, text)
	}
	want := []impl.Token{key("INSERT", 0), key("INTO", 0), name("t", 0), key("VALUES", 0), sign("(", 0), num("1", 0), sign(",", 0), text("x", 0), sign(")", 0), sign(",", 0), sign("(", 0), name("a", 0), sign(")", 0)}
	if got := impl.StmtTokens(insertStmt([]impl.Expr{one, x}, []impl.Expr{a})); !slices.Equal(got, want) {
		t.Errorf("the tokens of an insert are %v, want %v", got, want)
	}
}

// TestSayRowsWithOneValue has rows whose parentheses must be neither dropped nor taken for those of their value.
func TestSayRowsWithOneValue(t *testing.T) {
	a, b := column("", "a"), column("", "b")
	or, not, add := applied(impl.OpOr, a, b), applied(impl.OpNot, a), applied(impl.OpAdd, a, b)
	rows := []struct {
		e           impl.Expr
		short, full string
	}{
		{a, "a", "a"},
		{lit(null), "NULL", "NULL"},
		{lit(textOf("(")), "'('", "'('"},
		{exists(starred()), "EXISTS(SELECT*FROM t)", "EXISTS(SELECT*FROM t)"},
		{or, "a OR b", "a OR b"},
		{not, "NOT a", "NOT a"},
		{add, "a+b", "a+b"},
		{tested(impl.ExIn, false, a, b), "a IN(b)", "a IN(b)"},
		{tested(impl.ExIn, false, or, or), "(a OR b)IN(a OR b)", "(a OR b)IN((a OR b))"},
		{inSub(false, a, starred()), "a IN(SELECT*FROM t)", "a IN(SELECT*FROM t)"},
		{applied(impl.OpOr, or, a), "a OR b OR a", "(a OR b)OR a"},
		{applied(impl.OpOr, a, or), "a OR(a OR b)", "a OR(a OR b)"},
		{applied(impl.OpAnd, or, a), "(a OR b)AND a", "(a OR b)AND a"},
		{applied(impl.OpAnd, or, or), "(a OR b)AND(a OR b)", "(a OR b)AND(a OR b)"},
		{applied(impl.OpNeg, add), "-(a+b)", "-(a+b)"},
		{applied(impl.OpNeg, applied(impl.OpNeg, a)), "- -a", "-(-a)"},
		{applied(impl.OpMul, add, add), "(a+b)*(a+b)", "(a+b)*(a+b)"},
		{tested(impl.ExIs, false, not), "(NOT a)IS NULL", "(NOT a)IS NULL"},
		{applied(impl.OpEq, applied(impl.OpEq, a, b), a), "(a=b)=a", "(a=b)=a"},
	}
	for _, row := range rows {
		one := []impl.Expr{row.e}
		checkStmtTexts(t, insertStmt(one), "INSERT INTO t VALUES("+row.short+")", "INSERT INTO t VALUES("+row.full+")")
		checkStmtTexts(t, insertStmt(one, one), "INSERT INTO t VALUES("+row.short+"),("+row.short+")", "INSERT INTO t VALUES("+row.full+"),("+row.full+")")
		checkStmtTexts(t, insertStmt([]impl.Expr{a, row.e, b}, one, []impl.Expr{a, b}),
			"INSERT INTO t VALUES(a,"+row.short+",b),("+row.short+"),(a,b)", "INSERT INTO t VALUES(a,"+row.full+",b),("+row.full+"),(a,b)")
		for n := 1; n <= 5; n++ {
			s := insertStmt(repeated(one, n)...)
			checkStmt(t, s, "INSERT INTO t VALUES("+row.short+")"+strings.Repeat(",("+row.short+")", n-1))
			opening := strings.Count(strings.ReplaceAll(impl.StmtText(s), "'('", ""), "(")
			if want := n + n*strings.Count(strings.ReplaceAll(row.short, "'('", ""), "("); opening != want {
				t.Errorf("%d parentheses are opened in %q, want %d", opening, impl.StmtText(s), want)
			}
		}
	}
}

func TestSayUpdates(t *testing.T) {
	a, b, one := column("", "a"), column("t", "b"), lit(intOf(1))
	eq, or := applied(impl.OpEq, a, b), applied(impl.OpOr, a, b)
	rows := []struct {
		s    impl.Stmt
		want string
	}{
		{setting([]impl.Expr{one}), "UPDATE t SET a = 1"},
		{setting([]impl.Expr{one}, a), "UPDATE t SET a = 1 WHERE a"},
		{setting([]impl.Expr{one, a}), "UPDATE t SET a = 1, b = a"},
		{setting([]impl.Expr{one, a, b}, eq), "UPDATE t SET a = 1, b = a, c = t.b WHERE a = t.b"},
		{setting([]impl.Expr{eq}), "UPDATE t SET a = a = t.b"},
		{setting([]impl.Expr{eq, eq}, eq), "UPDATE t SET a = a = t.b, b = a = t.b WHERE a = t.b"},
		{setting([]impl.Expr{applied(impl.OpEq, eq, eq)}, applied(impl.OpEq, eq, a)), "UPDATE t SET a = (a = t.b) = (a = t.b) WHERE (a = t.b) = a"},
		{setting([]impl.Expr{or, applied(impl.OpAnd, or, a)}, or), "UPDATE t SET a = a OR t.b, b = (a OR t.b) AND a WHERE a OR t.b"},
		{setting([]impl.Expr{tested(impl.ExIn, true, a, one, or)}, exists(starred())), "UPDATE t SET a = a NOT IN (1, a OR t.b) WHERE EXISTS (SELECT * FROM t)"},
		{setting([]impl.Expr{inSub(false, or, starred()), one}), "UPDATE t SET a = (a OR t.b) IN (SELECT * FROM t), b = 1"},
		{setting(repeated(one, 12)), "UPDATE t SET a=1,b=1,c=1,d=1,e=1,f=1,g=1,h=1,i=1,j=1,k=1,l=1"},
		{setting(repeated(one, 12), one), "UPDATE t SET a=1,b=1,c=1,d=1,e=1,f=1,g=1,h=1,i=1,j=1,k=1,l=1 WHERE 1"},
		// A column may occur twice.
		{updateStmt([]impl.Expr{one, a}), "UPDATE t SET c = 1, c = a"},
	}
	for _, row := range rows {
		checkStmt(t, row.s, row.want)
	}
	want := []impl.Token{key("UPDATE", 0), name("t", 0), key("SET", 0), name("a", 0), sign("=", 0), num("1", 0), sign(",", 0), name("b", 0), sign("=", 0), name("a", 0), key("WHERE", 0), name("a", 0)}
	if got := impl.StmtTokens(setting([]impl.Expr{one, a}, a)); !slices.Equal(got, want) {
		t.Errorf("the tokens of an update are %v, want %v", got, want)
	}
	less := applied(impl.OpLt, applied(impl.OpNeg, a), one)
	checkStmtTexts(t, setting([]impl.Expr{less, one}, less), "UPDATE t SET a=-a<1,b=1 WHERE-a<1", "UPDATE t SET a=(-a)<1,b=1 WHERE(-a)<1")
}

// TestSayNames has every keyword and other names that need quotes as tables and columns.
func TestSayNames(t *testing.T) {
	one := []impl.Expr{lit(intOf(1))}
	for _, s := range oddNames() {
		text := impl.NameText(s)
		remove, insert, update := deleteStmt(), insertStmt(one), updateStmt(one)
		remove.Table, insert.Table, update.Table, update.Cols[0] = s, s, s, s
		checkStmt(t, remove, "DELETE FROM "+text)
		checkStmt(t, insert, "INSERT INTO "+text+" VALUES (1)")
		checkStmt(t, update, "UPDATE "+text+" SET "+text+" = 1")
		remove.Where, update.Where = one, one
		checkStmt(t, remove, "DELETE FROM "+text+" WHERE 1")
		checkStmt(t, update, "UPDATE "+text+" SET "+text+" = 1 WHERE 1")
		for i, other := range oddNames()[:20] {
			cols := setting([]impl.Expr{one[0], column("", s), column(other, s)})
			cols.Cols[i%3] = s
			cols.Cols[(i+1)%3] = other
			checkStmtReadBack(t, cols)
		}
		for _, list := range [][]impl.Token{impl.StmtTokens(remove), impl.StmtTokens(insert), impl.StmtTokens(update)} {
			if !slices.Contains(list, name(s, 0)) {
				t.Errorf("there is no token of the name %q in %v", s, list)
			}
		}
	}
	quoted := updateStmt(one, one...)
	quoted.Table, quoted.Cols[0] = "set", "a\"b"
	checkStmtTexts(t, quoted, `UPDATE"set"SET"a""b"=1 WHERE 1`, `UPDATE"set"SET"a""b"=1 WHERE 1`)
	removed := deleteStmt(column("delete", "where"))
	removed.Table = "my t"
	checkStmtTexts(t, removed, `DELETE FROM"my t"WHERE"delete"."where"`, `DELETE FROM"my t"WHERE"delete"."where"`)
	inserted := insertStmt(one)
	inserted.Table = "Values"
	checkStmtTexts(t, inserted, `INSERT INTO"Values"VALUES(1)`, `INSERT INTO"Values"VALUES(1)`)
}

// TestSayEveryExpressionInEachPlace has expressions of each level, none of which needs parentheses around it.
func TestSayEveryExpressionInEachPlace(t *testing.T) {
	a := column("", "a")
	for _, e := range append(append(growths(leaves()...), leaves()...), wrapping(0), wrapping(3), exists(full())) {
		short, full := impl.ExprText(e), impl.FullText(e)
		wants := map[string]impl.Stmt{
			"DELETE FROM t WHERE #":                        deleteStmt(e),
			"INSERT INTO t VALUES (#)":                     insertStmt([]impl.Expr{e}),
			"INSERT INTO t VALUES (#, #)":                  insertStmt([]impl.Expr{e, e}),
			"INSERT INTO t VALUES (a, #, a), (#), (a)":     insertStmt([]impl.Expr{a, e, a}, []impl.Expr{e}, []impl.Expr{a}),
			"UPDATE t SET a = #":                           setting([]impl.Expr{e}),
			"UPDATE t SET a = #, b = # WHERE a":            setting([]impl.Expr{e, e}, a),
			"UPDATE t SET a = #, b = a, c = # WHERE #":     setting([]impl.Expr{e, a, e}, e),
			"SELECT # FROM t":                              selectStmt(queriesWith(e)[0]),
			"SELECT * FROM t JOIN u ON #":                  selectStmt(queriesWith(e)[1]),
			"SELECT * FROM t WHERE #":                      selectStmt(queriesWith(e)[2]),
			"SELECT * FROM t ORDER BY #":                   selectStmt(queriesWith(e)[3]),
			"DELETE FROM t WHERE EXISTS (SELECT # FROM t)": deleteStmt(exists(selecting(e))),
		}
		for want, s := range wants {
			if !impl.StmtOk(s) {
				t.Errorf("%s is not valid", described(s))
			}
			spaced := func(inside string) string {
				return impl.Spaced(tokensIn(t, strings.ReplaceAll(want, "#", inside)))
			}
			checkStmtTexts(t, s, spaced(short), spaced(full))
			checkStmtReadBack(t, s)
		}
	}
}

// checkFullInEachPlace expects the text full of e, without parentheses around it, in each place of a statement.
func checkFullInEachPlace(t *testing.T, e impl.Expr, full string) {
	t.Helper()
	wants := []string{
		"SELECT # FROM t", "SELECT * FROM t JOIN u ON #", "SELECT * FROM t WHERE #", "SELECT * FROM t ORDER BY #",
		"INSERT INTO t VALUES (#)", "UPDATE t SET c = #", "DELETE FROM t WHERE #", "UPDATE t SET c = 1 WHERE #",
	}
	for i, s := range stmtsWith(e) {
		want := impl.Spaced(tokensIn(t, strings.ReplaceAll(wants[i], "#", full)))
		if got := impl.StmtFull(s); got != want || want == "" {
			t.Errorf("StmtFull is %q, want %q", got, want)
		}
		checkStmtReadBack(t, s)
	}
}

// TestStmtFullAtEveryDepth has a Kid that needs no parentheses, but has them, at each depth of each place.
func TestStmtFullAtEveryDepth(t *testing.T) {
	a := column("", "a")
	subs := []string{"SELECT # FROM t", "SELECT * FROM t JOIN u ON #", "SELECT * FROM t WHERE #", "SELECT * FROM t ORDER BY #"}
	e, full := applied(impl.OpSub, a, a), "a - a"
	for i := range 4 {
		checkFullInEachPlace(t, e, full)
		e, full = applied(impl.OpSub, e, a), "("+full+") - a"
		checkFullInEachPlace(t, e, full)
		e, full = inSub(false, e, queriesWith(e)[i]), "("+full+") IN ("+strings.ReplaceAll(subs[i], "#", full)+")"
	}
	checkFullInEachPlace(t, e, full)
	checkFullInEachPlace(t, exists(selecting(e)), "EXISTS (SELECT "+full+" FROM t)")
	checkFullInEachPlace(t, tested(impl.ExIn, true, a, e, a), "a NOT IN (("+full+"), a)")
}

func TestTokensOfValidStatements(t *testing.T) {
	list := validStmts()
	for _, e := range append(validExprs(), wrapping(0), wrapping(9), bush(200), chain(24), exists(full())) {
		list = append(list, stmtsWith(e)...)
	}
	for _, s := range list {
		if !stmtOkByRules(s) {
			checkUnwrittenStmt(t, s)
			continue
		}
		checkStmtReadBack(t, s)
		if !slices.Equal(impl.StmtTokens(remade(s, emptyLists)), impl.StmtTokens(s)) || impl.StmtFull(remade(s, emptyLists)) != impl.StmtFull(s) {
			t.Errorf("empty slices change what is written of %s", described(s))
		}
	}
}

// TestTokensOfStatementMutants has valid and invalid statements that differ in a single field.
func TestTokensOfStatementMutants(t *testing.T) {
	oks := map[bool]int{}
	list := append(stmtsWith(column("t", "a")), selectStmt(full()), deleteStmt(), selectStmt(joinedOn(wrapping(1))), insertStmt([]impl.Expr{wrapping(1), lit(textOf("x"))}, []impl.Expr{column("t", "a")}),
		setting([]impl.Expr{wrapping(1), exists(starred())}, wrapping(1)), deleteStmt(inSub(true, wrapping(1), starred())))
	for _, s := range list {
		visitMutants(s, func(other impl.Stmt) {
			ok := stmtOkByRules(other)
			oks[ok]++
			if ok {
				checkStmtReadBack(t, other)
			} else {
				checkUnwrittenStmt(t, other)
			}
		})
	}
	if oks[true] < 500 || oks[false] < 500 {
		t.Errorf("%d mutants are valid and %d are not", oks[true], oks[false])
	}
}

func TestTokensOfRandomStatements(t *testing.T) {
	random := rand.New(rand.NewSource(110))
	odd := oddNames()
	pick := func() string { return odd[random.Intn(len(odd))] }
	kinds, bad, pairs := map[int]int{}, 0, 0
	for i := range 1200 {
		s := randomStmt(random, 1+i%7)
		respell(reflect.ValueOf(&s).Elem(), pick)
		if !stmtOkByRules(s) {
			bad++
			checkUnwrittenStmt(t, s)
			continue
		}
		kinds[s.Kind]++
		pairs += stmtWrapsByRules(s)
		checkStmtReadBack(t, s)
	}
	for kind := 1; kind <= 4; kind++ {
		if kinds[kind] < 100 {
			t.Errorf("only %d random statements of the kind %d are valid", kinds[kind], kind)
		}
	}
	if bad < 20 || pairs < 1000 {
		t.Errorf("%d random statements are not valid, and the others have %d pairs", bad, pairs)
	}
}

func TestInvalidStatementsHaveNoTokens(t *testing.T) {
	for kind := -1; kind < 7; kind++ {
		checkUnwrittenStmt(t, impl.Stmt{Kind: kind})
		other := everywhere()
		other.Kind = kind
		checkUnwrittenStmt(t, other)
	}
	for _, s := range validStmts() {
		for _, kind := range append(edgeInts(), -4, -1, 0, 5, 256+s.Kind, 1<<32+s.Kind) {
			if kind < 1 || kind > 4 {
				s.Kind = kind
				checkUnwrittenStmt(t, s)
			}
		}
	}
	a := chain(1)
	rows, update, short := repeated([]impl.Expr{a}, 6), updateStmt(repeated(a, 13)), updateStmt(repeated(a, 3))
	short.Cols = short.Cols[:2]
	for _, s := range []impl.Stmt{
		insertStmt(), insertStmt(nil), insertStmt([]impl.Expr{a}, nil), insertStmt(rows...), insertStmt(repeated(a, 13)),
		updateStmt(nil), updateStmt(nil, a), updateStmt([]impl.Expr{a}, a, a), update, short, deleteStmt(a, a),
		insertStmt(repeated(chain(20), 10), []impl.Expr{a}), updateStmt(repeated(chain(20), 10), a), deleteStmt(bush(201)),
	} {
		checkUnwrittenStmt(t, s)
	}
	for _, bad := range append(invalidExprs(), impl.Expr{Kind: impl.ExBin, Op: impl.OpAdd}, impl.Expr{Kind: impl.ExInSub}, impl.Expr{Kind: impl.ExExists}) {
		for _, s := range append(stmtsWith(bad), stmtsWith(applied(impl.OpNot, bad))...) {
			checkUnwrittenStmt(t, s)
		}
	}
	for _, q := range invalidQueries() {
		checkUnwrittenStmt(t, selectStmt(q))
		checkUnwrittenStmt(t, deleteStmt(exists(q)))
	}
}

// TestStatementsWithFieldsOfOthers has statements that would be valid without a field that another kind uses.
func TestStatementsWithFieldsOfOthers(t *testing.T) {
	for _, valid := range validStmts() {
		for _, fills := range stmtFillers() {
			for _, fill := range fills {
				s := copied(valid)
				fill(&s)
				if stmtOkByRules(s) {
					checkStmtReadBack(t, s)
				} else {
					checkUnwrittenStmt(t, s)
				}
			}
		}
	}
	for size := range 23 {
		for _, s := range []impl.Stmt{deleteStmt(), insertStmt([]impl.Expr{chain(1)}), updateStmt([]impl.Expr{chain(1)})} {
			s.Table = long(size)
			if size >= 1 && size <= 20 {
				checkStmtReadBack(t, s)
			} else {
				checkUnwrittenStmt(t, s)
			}
		}
	}
}

func TestStatementsAtTheLimits(t *testing.T) {
	for _, e := range []impl.Expr{chain(24), bush(199)} {
		for _, s := range stmtsWith(e) {
			checkStmtReadBack(t, s)
		}
	}
	for _, s := range stmtsWith(chain(25)) {
		checkUnwrittenStmt(t, s)
	}
	row := repeated(chain(20), 10)
	checkStmtReadBack(t, insertStmt(row[:5], row[5:]))
	checkStmtReadBack(t, updateStmt(row))
	checkStmtReadBack(t, updateStmt(row[:9], chain(20)))
	checkStmtReadBack(t, insertStmt(repeated(repeated(applied(impl.OpAdd, chain(1), chain(1)), 12), 5)...))
}

// sizeOf returns the number of bytes that Spaced would return if there were no limit.
func sizeOf(list []impl.Token) int {
	size := 0
	for i, x := range list {
		size += len(impl.TokenText(x))
		if i > 0 && impl.NeedsGap(list[i-1], x) {
			size++
		}
	}
	return size
}

// checkStmtSizes expects texts of these sizes, or none where they are too long.
func checkStmtSizes(t *testing.T, s impl.Stmt, short, full int) {
	t.Helper()
	bounded := func(n int) int {
		if n > 2000 {
			return 0
		}
		return n
	}
	if got := len(impl.StmtText(s)); got != bounded(short) {
		t.Errorf("the text has %d bytes, want %d", got, bounded(short))
	}
	if got := len(impl.StmtFull(s)); got != bounded(full) {
		t.Errorf("the full text has %d bytes, want %d", got, bounded(full))
	}
	checkStmtReadBack(t, s)
}

// TestStatementTextsThatAreTooLong has texts around the limit MaxSource. Their tokens have no limit.
func TestStatementTextsThatAreTooLong(t *testing.T) {
	texts := repeated(lit(textOf(long(40))), 12)
	signs := applied(impl.OpNeg, applied(impl.OpNeg, column("", "a")))
	for n := range 41 {
		row := slices.Concat([]impl.Expr{signs}, texts[:9], []impl.Expr{lit(textOf(long(n)))})
		checkStmtSizes(t, insertStmt(texts, texts, texts, row), 1970+n, 1971+n)
	}
	for n := 1; n <= 20; n++ {
		e := measured(n, 19)
		checkStmtSizes(t, deleteStmt(e), 1999+n, 2009+n)
		checkStmtSizes(t, updateStmt([]impl.Expr{e}), 1994+n, 2004+n)
		for _, s := range stmtsWith(e) {
			checkStmtSizes(t, s, sizeOf(stmtTokensByRules(s, wrappedByRules)), sizeOf(stmtTokensByRules(s, fullByRules)))
		}
	}
}

// callSayers calls every function of printing statements with s.
func callSayers(s impl.Stmt) {
	overwrite(reflect.ValueOf(impl.StmtTokens(s)))
	impl.StmtText(s)
	impl.StmtFull(s)
}

func TestSayingDoesNotChangeStatements(t *testing.T) {
	random := rand.New(rand.NewSource(111))
	list := append(validStmts(), impl.Stmt{}, everywhere())
	for _, e := range append(append(validExprs(), invalidExprs()...), wrapping(5)) {
		list = append(list, stmtsWith(e)...)
		list = append(list, insertStmt([]impl.Expr{e, e}, []impl.Expr{e}), setting([]impl.Expr{e, e}, e))
	}
	for i := range 300 {
		list = append(list, randomStmt(random, 1+i%7))
	}
	for _, s := range list {
		// With unused capacity in every slice, an append to one of them is seen too.
		roomy := remade(s, roomyLists)
		before := remade(roomy, wholeLists)
		callSayers(roomy)
		if !reflect.DeepEqual(remade(roomy, wholeLists), before) {
			t.Errorf("a call changes %s", described(s))
		}
	}
}

// TestSaySharedMemory has a statement whose slices share memory with each other.
func TestSaySharedMemory(t *testing.T) {
	all := repeated(wrapping(1), 6)
	s := setting(all[:3], all[2])
	s.Where = all[1:2]
	checkStmtReadBack(t, s)
	checkStmtReadBack(t, insertStmt(all[:2], all[1:3], all[:1]))
	if !sameByRules(all, repeated(wrapping(1), 6)) {
		t.Error("a call changes memory that the parts of a statement share")
	}
}

func TestTokensOfStatementsAreNewEachTime(t *testing.T) {
	for _, s := range append(validStmts(), insertStmt(repeated(wrapping(1), 2), []impl.Expr{wrapping(2)})) {
		first, second := impl.StmtTokens(s), impl.StmtTokens(s)
		want := slices.Clone(first)
		overwrite(reflect.ValueOf(first))
		if !slices.Equal(second, want) || !slices.Equal(impl.StmtTokens(s), want) {
			t.Errorf("the tokens of two calls share memory at %s", described(s))
		}
	}
}

// TestSayingVeryLargeStatements has statements that are not valid, for which a stack that ends early would not suffice if a function called itself for each part.
func TestSayingVeryLargeStatements(t *testing.T) {
	defer debug.SetMaxStack(debug.SetMaxStack(1 << 24))
	a, huge := column("", "a"), chain(1)
	for range 60 {
		huge = applied(impl.OpAdd, huge, huge)
	}
	endless := applied(impl.OpNot, a)
	endless.Kids[0] = endless
	wide := repeated(a, 300000)
	list := []impl.Stmt{insertStmt(wide), insertStmt(repeated(wide[:1], 300000)...), updateStmt(wide), updateStmt(wide[:1], wide...), deleteStmt(wide...), selectStmt(selecting(wide...))}
	for _, e := range []impl.Expr{wrapped(500000, false), wrapped(40000, true), nested(500000, a, false), nested(50000, a, true), huge, endless, tested(impl.ExIn, true, wide...)} {
		list = append(list, stmtsWith(e)...)
	}
	for _, s := range list {
		if impl.StmtTokens(s) != nil || impl.StmtText(s) != "" || impl.StmtFull(s) != "" {
			t.Errorf("a very large statement of the kind %d has tokens", s.Kind)
		}
	}
}
