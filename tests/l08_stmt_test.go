package tests

import (
	"fmt"
	"math"
	"math/rand"
	"reflect"
	"runtime/debug"
	"slices"
	"testing"

	"loop.example/g00495/impl"
)

func selectStmt(q impl.Query) impl.Stmt { return impl.Stmt{Kind: impl.StSelect, Query: q} }

func insertStmt(rows ...[]impl.Expr) impl.Stmt {
	return impl.Stmt{Kind: impl.StInsert, Table: "t", Rows: rows}
}

func updateStmt(sets []impl.Expr, where ...impl.Expr) impl.Stmt {
	return impl.Stmt{Kind: impl.StUpdate, Table: "t", Cols: repeated("c", len(sets)), Sets: sets, Where: where}
}

func deleteStmt(where ...impl.Expr) impl.Stmt {
	return impl.Stmt{Kind: impl.StDelete, Table: "t", Where: where}
}

// stmtsWith returns valid statements with e in each of the places of an expression. Only an update with a Where has another expression, of the size 1.
func stmtsWith(e impl.Expr) []impl.Stmt {
	var list []impl.Stmt
	for _, q := range queriesWith(e) {
		list = append(list, selectStmt(q))
	}
	return append(list, insertStmt([]impl.Expr{e}), updateStmt([]impl.Expr{e}), deleteStmt(e), updateStmt([]impl.Expr{chain(1)}, e))
}

// validStmts lists valid statements of every kind.
func validStmts() []impl.Stmt {
	list := []impl.Stmt{
		selectStmt(starred()), selectStmt(full()),
		insertStmt([]impl.Expr{chain(2), exists(full())}, []impl.Expr{lit(null)}),
		updateStmt([]impl.Expr{chain(2), exists(full())}), updateStmt([]impl.Expr{lit(yes), chain(1)}, exists(full())),
		deleteStmt(), deleteStmt(exists(full())),
	}
	return append(list, stmtsWith(column("t", "a"))...)
}

// everywhere returns a statement with expressions in all of its places, whose names count them in the order of the document.
func everywhere() impl.Stmt {
	n := 0
	next := func() impl.Expr {
		n++
		return column("", fmt.Sprint("x", n))
	}
	return impl.Stmt{
		Query: impl.Query{
			Items: []impl.Item{{Expr: next()}, {Star: true, Expr: column("", "star")}, {Expr: next()}},
			From:  []impl.Source{{Table: "t", On: []impl.Expr{next()}}, {Table: "u"}, {Table: "v", On: []impl.Expr{next(), next()}}},
			Where: []impl.Expr{next(), next()},
			Order: []impl.SortKey{{Expr: next(), Desc: true}, {Expr: next()}},
		},
		Table: "w",
		Rows:  [][]impl.Expr{{next(), next()}, {}, {next()}},
		Cols:  []string{"c", "d"},
		Sets:  []impl.Expr{next(), next()},
		Where: []impl.Expr{next(), next()},
	}
}

// somewhere lists what remains of everywhere() without each choice of its lists, with one row or with all three.
func somewhere() []impl.Stmt {
	var list []impl.Stmt
	for choice := range 1 << 8 {
		s := everywhere()
		for i, empty := range []func(){
			func() { s.Query.Items = nil },
			func() { s.Query.From = nil },
			func() { s.Query.Where = nil },
			func() { s.Query.Order = nil },
			func() { s.Rows = s.Rows[:1] },
			func() { s.Rows = s.Rows[:0] },
			func() { s.Sets = nil },
			func() { s.Where = nil },
		} {
			if choice>>i&1 == 1 {
				empty()
			}
		}
		list = append(list, copied(s))
	}
	return list
}

func TestStatementsWithSomeListsByRules(t *testing.T) {
	for _, s := range somewhere() {
		for kind := range 6 {
			s.Kind = kind
			checkStmtByRules(t, s)
		}
		checkSameForms(t, impl.SameStmt, s)
	}
}

// placesIn returns the places of the expressions of s, in the order of the document.
func placesIn(s *impl.Stmt) []*impl.Expr {
	list := placesInQuery(&s.Query)
	for i := range s.Rows {
		for j := range s.Rows[i] {
			list = append(list, &s.Rows[i][j])
		}
	}
	for i := range s.Sets {
		list = append(list, &s.Sets[i])
	}
	for i := range s.Where {
		list = append(list, &s.Where[i])
	}
	return list
}

func placesInQuery(q *impl.Query) []*impl.Expr {
	var list []*impl.Expr
	for i := range q.Items {
		if !q.Items[i].Star {
			list = append(list, &q.Items[i].Expr)
		}
	}
	for i := range q.From {
		for j := range q.From[i].On {
			list = append(list, &q.From[i].On[j])
		}
	}
	for i := range q.Where {
		list = append(list, &q.Where[i])
	}
	for i := range q.Order {
		list = append(list, &q.Order[i].Expr)
	}
	return list
}

// replacedIn visits copies of s in which e stands in each place in turn.
func replacedIn(s impl.Stmt, e impl.Expr, visit func(impl.Stmt)) {
	for i := range placesIn(&s) {
		other := copied(s)
		*placesIn(&other)[i] = e
		visit(other)
	}
}

// The rules of the document, sentence by sentence.

func exprsByRules(s impl.Stmt) []impl.Expr {
	list := expressionsOf(s.Query)
	for _, row := range s.Rows {
		list = append(list, row...)
	}
	list = append(list, s.Sets...)
	return append(list, s.Where...)
}

func stmtDepthByRules(s impl.Stmt) int {
	depth := 0
	for _, e := range exprsByRules(s) {
		depth = max(depth, depthByRules(e))
	}
	return depth
}

func stmtSizeByRules(s impl.Stmt) int {
	size := 0
	for _, e := range exprsByRules(s) {
		size += sizeByRules(e)
	}
	return size
}

func stmtOkByRules(s impl.Stmt) bool {
	// rest is what remains of s without the fields that its kind uses.
	rest, ok := s, true
	rest.Kind = 0
	switch s.Kind {
	case impl.StSelect:
		rest.Query = impl.Query{}
		ok = queryOkByRules(s.Query)
	case impl.StInsert:
		rest.Table, rest.Rows = "", nil
		ok = impl.NameOk(s.Table) && 1 <= len(s.Rows) && len(s.Rows) <= 5
		for _, row := range s.Rows {
			ok = ok && 1 <= len(row) && len(row) <= 12 && allOf(row, okByRules)
		}
	case impl.StUpdate:
		rest.Table, rest.Cols, rest.Sets, rest.Where = "", nil, nil, nil
		ok = impl.NameOk(s.Table) && 1 <= len(s.Cols) && len(s.Cols) <= 12 && allOf(s.Cols, impl.NameOk)
		ok = ok && len(s.Sets) == len(s.Cols) && len(s.Where) <= 1 && allOf(s.Sets, okByRules) && allOf(s.Where, okByRules)
	case impl.StDelete:
		rest.Table, rest.Where = "", nil
		ok = impl.NameOk(s.Table) && len(s.Where) <= 1 && allOf(s.Where, okByRules)
	default:
		return false
	}
	return ok && sameByRules(rest, impl.Stmt{}) && stmtDepthByRules(s) <= 24 && stmtSizeByRules(s) <= 200
}

func tablesByRules(s impl.Stmt) []string {
	all := append([]string{s.Table}, tablesOfSources(s.Query)...)
	for _, e := range exprsByRules(s) {
		all = append(all, tablesOfExpr(e)...)
	}
	var names []string
	for _, name := range all {
		if name != "" && !slices.Contains(names, name) {
			names = append(names, name)
		}
	}
	return names
}

func tablesOfSources(q impl.Query) []string {
	var all []string
	for _, x := range q.From {
		all = append(all, x.Table)
	}
	return all
}

func tablesOfExpr(e impl.Expr) []string {
	var all []string
	for _, kid := range e.Kids {
		all = append(all, tablesOfExpr(kid)...)
	}
	for _, q := range e.Sub {
		all = append(all, tablesOfSources(q)...)
		for _, part := range expressionsOf(q) {
			all = append(all, tablesOfExpr(part)...)
		}
	}
	return all
}

func TestStatementConstants(t *testing.T) {
	if got := []int{impl.MaxRows, impl.StSelect, impl.StInsert, impl.StUpdate, impl.StDelete}; !slices.Equal(got, []int{5, 1, 2, 3, 4}) {
		t.Errorf("the constants are %v", got)
	}
}

func checkExprsOf(t *testing.T, s impl.Stmt, want ...impl.Expr) {
	t.Helper()
	if got := impl.ExprsOf(s); !sameByRules(got, want) {
		t.Errorf("ExprsOf returns %s at %s", described(got), described(s))
	}
}

func TestExprsOfNone(t *testing.T) {
	list := []impl.Stmt{{}, {Kind: 3, Table: "t", Cols: []string{"c"}}, selectStmt(starred()), insertStmt(), insertStmt(nil, []impl.Expr{}), updateStmt(nil), deleteStmt()}
	stars := selecting(chain(1), chain(2))
	stars.Items[0].Star, stars.Items[1].Star = true, true
	for _, s := range append(list, selectStmt(stars)) {
		checkExprsOf(t, s)
		checkExprsOf(t, remade(s, emptyLists))
		checkStmtMeasures(t, s, 0, 0)
	}
}

func TestExprsOfOnePlace(t *testing.T) {
	a, b, c := chain(1), exists(full()), column("t", "c")
	for _, e := range []impl.Expr{a, b, c, {}, {Kind: -1, Kids: []impl.Expr{a, b}, Sub: []impl.Query{{}, full()}}} {
		for _, q := range queriesWith(e) {
			// The kind of a statement does not matter.
			for kind := range 6 {
				checkExprsOf(t, impl.Stmt{Kind: kind, Query: q}, e)
			}
		}
		checkExprsOf(t, insertStmt([]impl.Expr{e}), e)
		checkExprsOf(t, updateStmt([]impl.Expr{e}), e)
		checkExprsOf(t, deleteStmt(e), e)
	}
	checkExprsOf(t, insertStmt([]impl.Expr{a, b}, []impl.Expr{c}, nil, []impl.Expr{b, b}), a, b, c, b, b)
	checkExprsOf(t, updateStmt([]impl.Expr{b, a, c}), b, a, c)
	checkExprsOf(t, updateStmt([]impl.Expr{b, a}, c, a), b, a, c, a)
	checkExprsOf(t, deleteStmt(c, a, b), c, a, b)
	mixed := selecting(a, b, c)
	mixed.Items[1].Star = true
	checkExprsOf(t, selectStmt(mixed), a, c)
}

func TestExprsOfAllPlaces(t *testing.T) {
	s := everywhere()
	got := impl.ExprsOf(s)
	if len(got) != 16 {
		t.Fatalf("ExprsOf returns %d expressions, want 16", len(got))
	}
	for i, e := range got {
		if want := column("", fmt.Sprint("x", i+1)); !sameByRules(e, want) {
			t.Errorf("expression %d is %s, want %s", i, described(e), described(want))
		}
	}
	for kind := -1; kind < 7; kind++ {
		s.Kind = kind
		checkExprsOf(t, s, exprsByRules(s)...)
	}
	for _, e := range []impl.Expr{{}, chain(4), exists(full())} {
		replacedIn(s, e, func(other impl.Stmt) { checkExprsOf(t, other, exprsByRules(other)...) })
	}
}

// span is the memory of a slice, its unused capacity included.
type span struct{ from, to uintptr }

func (a span) overlaps(b span) bool { return a.from < b.to && b.from < a.to }

// spansOf returns the memory of every slice in v.
func spansOf(v reflect.Value) []span {
	var list []span
	switch v.Kind() {
	case reflect.Struct:
		for i := range v.NumField() {
			list = append(list, spansOf(v.Field(i))...)
		}
	case reflect.Slice:
		if v.Cap() > 0 {
			list = append(list, span{v.Pointer(), v.Pointer() + uintptr(v.Cap())*v.Type().Elem().Size()})
		}
		for i := range v.Len() {
			list = append(list, spansOf(v.Index(i))...)
		}
	}
	return list
}

// overwrite changes everything in v that is no slice, in the unused capacity of slices too.
func overwrite(v reflect.Value) {
	switch v.Kind() {
	case reflect.Bool:
		v.SetBool(!v.Bool())
	case reflect.Int:
		v.SetInt(v.Int() + 77)
	case reflect.String:
		v.SetString(v.String() + "!")
	case reflect.Struct:
		for i := range v.NumField() {
			overwrite(v.Field(i))
		}
	case reflect.Slice:
		for i := range v.Cap() {
			overwrite(v.Slice(0, v.Cap()).Index(i))
		}
	}
}

// checkOwnMemory checks that no slice of ExprsOf s shares memory with s or with another one of them.
func checkOwnMemory(t *testing.T, s impl.Stmt) {
	t.Helper()
	before := remade(s, wholeLists)
	got := impl.ExprsOf(s)
	own, given := spansOf(reflect.ValueOf(got)), spansOf(reflect.ValueOf(s))
	for i, a := range own {
		if slices.ContainsFunc(given, a.overlaps) {
			t.Errorf("ExprsOf shares memory with the statement %s", described(s))
		}
		if slices.ContainsFunc(own[:i], a.overlaps) {
			t.Errorf("two slices that ExprsOf returns share memory at %s", described(s))
		}
	}
	overwrite(reflect.ValueOf(got))
	if !reflect.DeepEqual(remade(s, wholeLists), before) {
		t.Errorf("a change of what ExprsOf returns changes the statement %s", described(before))
	}
}

func TestExprsOfHasItsOwnMemory(t *testing.T) {
	starWithParts := full()
	starWithParts.Items[0].Expr = exists(full())
	list := append(validStmts(), impl.Stmt{}, everywhere(), deleteStmt(exists(starWithParts), chain(3)), selectStmt(starWithParts))
	for _, e := range append(append(validExprs(), invalidExprs()...), impl.Expr{Kids: []impl.Expr{exists(full())}, Sub: []impl.Query{full(), {}, full()}}) {
		list = append(list, stmtsWith(e)...)
		replacedIn(everywhere(), e, func(s impl.Stmt) { list = append(list, s) })
	}
	for _, s := range append(list, somewhere()...) {
		checkOwnMemory(t, s)
		checkOwnMemory(t, remade(s, roomyLists))
		checkOwnMemory(t, remade(s, emptyLists))
	}
}

// TestExprsOfSharedMemory has statements whose own slices share memory with each other.
func TestExprsOfSharedMemory(t *testing.T) {
	e := tested(impl.ExIn, false, chain(3), exists(full()))
	all := repeated(e, 8)
	s := impl.Stmt{Rows: [][]impl.Expr{all[:2], all[1:3], all[:2]}, Sets: all[3:5], Where: all[4:7]}
	s.Query = impl.Query{Items: items(e, e), From: []impl.Source{{Table: "t", On: all[:1]}, {Table: "t", On: all[:1]}}, Where: all[7:], Order: keys(e)}
	checkOwnMemory(t, s)
	checkExprsOf(t, s, repeated(e, 17)...)
	subs := []impl.Query{s.Query, s.Query}
	checkOwnMemory(t, deleteStmt(impl.Expr{Sub: subs}, impl.Expr{Kids: all, Sub: subs[:1]}))
}

func TestExprsOfIsNewEachTime(t *testing.T) {
	s := remade(updateStmt([]impl.Expr{chain(3)}, exists(full())), roomyLists)
	first, second := impl.ExprsOf(s), impl.ExprsOf(s)
	for _, a := range spansOf(reflect.ValueOf(first)) {
		if slices.ContainsFunc(spansOf(reflect.ValueOf(second)), a.overlaps) {
			t.Error("two results of ExprsOf share memory")
		}
	}
	overwrite(reflect.ValueOf(first))
	if !sameByRules(second, exprsByRules(s)) {
		t.Error("a change of one result of ExprsOf changes another one")
	}
}

func TestAppendToExprsOf(t *testing.T) {
	all := repeated(chain(2), 6)
	s := impl.Stmt{Rows: [][]impl.Expr{all[:0], all[:1]}, Sets: all[:3], Where: all[:2]}
	s.Query = impl.Query{Where: all[:4], Items: items(impl.Expr{Kids: all[:2], Sub: make([]impl.Query, 1, 3)})}
	before := remade(s, wholeLists)
	got := impl.ExprsOf(s)
	_ = append(got, lit(null))
	for _, e := range got {
		_ = append(e.Kids, lit(null))
		_ = append(e.Sub, full())
	}
	if !reflect.DeepEqual(remade(s, wholeLists), before) {
		t.Error("an append to what ExprsOf returns writes into the statement")
	}
}

func checkStmtMeasures(t *testing.T, s impl.Stmt, depth, size int) {
	t.Helper()
	if d, n := impl.StmtDepth(s), impl.StmtSize(s); d != depth || n != size {
		t.Errorf("the depth and the size are %d and %d, want %d and %d at %s", d, n, depth, size, described(s))
	}
}

func TestMeasuresOfStatements(t *testing.T) {
	for n := 1; n <= 30; n++ {
		list := stmtsWith(chain(n))
		for _, s := range list[:len(list)-1] {
			checkStmtMeasures(t, s, n, n)
		}
		checkStmtMeasures(t, list[len(list)-1], n, n+1)
	}
	checkStmtMeasures(t, selectStmt(full()), 5, 29)
	checkStmtMeasures(t, deleteStmt(exists(full())), 6, 30)
	checkStmtMeasures(t, insertStmt([]impl.Expr{chain(2), chain(4)}, []impl.Expr{chain(3)}, nil), 4, 9)
	checkStmtMeasures(t, updateStmt([]impl.Expr{chain(2), chain(1)}, chain(5), chain(3)), 5, 11)
	// The fields other than expressions, the kind among them, do not matter.
	checkStmtMeasures(t, impl.Stmt{Kind: 9, Table: "t", Cols: repeated("c", 40), Rows: make([][]impl.Expr, 50), Sets: []impl.Expr{{}}}, 1, 1)
}

func TestMeasuresOfEachPlace(t *testing.T) {
	checkStmtMeasures(t, everywhere(), 1, 16)
	replacedIn(everywhere(), chain(8), func(s impl.Stmt) { checkStmtMeasures(t, s, 8, 23) })
	replacedIn(everywhere(), bush(1023), func(s impl.Stmt) { checkStmtMeasures(t, s, 10, 1038) })
	replacedIn(everywhere(), exists(full()), func(s impl.Stmt) { checkStmtMeasures(t, s, 6, 45) })
	replacedIn(everywhere(), tested(impl.ExIn, true, repeated(chain(1), 30)...), func(s impl.Stmt) { checkStmtMeasures(t, s, 2, 46) })
	// The deepest expression need not be the largest one.
	replacedIn(everywhere(), chain(8), func(s impl.Stmt) {
		replacedIn(s, tested(impl.ExIn, true, repeated(chain(1), 30)...), func(both impl.Stmt) {
			checkStmtMeasures(t, both, stmtDepthByRules(both), stmtSizeByRules(both))
		})
	})
	starred := everywhere()
	starred.Query.Items[1].Expr = chain(30)
	checkStmtMeasures(t, starred, 1, 16)
}

func checkStmtOk(t *testing.T, s impl.Stmt, want bool) {
	t.Helper()
	if got := impl.StmtOk(s); got != want {
		t.Errorf("StmtOk is %v at %s", got, described(s))
	}
}

func TestStmtOkAtValidStatements(t *testing.T) {
	list := validStmts()
	for _, e := range validExprs() {
		list = append(list, stmtsWith(e)...)
	}
	for _, s := range list {
		checkStmtOk(t, s, true)
		checkStmtOk(t, remade(s, emptyLists), true)
		checkStmtOk(t, remade(s, roomyLists), true)
	}
}

func TestStmtOkAtKinds(t *testing.T) {
	others := append(edgeInts(), -4, -1, 0, 5, 6, 9, 256+1, 256+4, 1<<32+1, 1<<32+4, -1<<32+1)
	for _, s := range append(validStmts(), impl.Stmt{}) {
		right := s.Kind
		for _, kind := range others {
			if kind < 1 || kind > 4 {
				s.Kind = kind
				checkStmtOk(t, s, false)
			}
		}
		for kind := 1; kind <= 4; kind++ {
			s.Kind = kind
			checkStmtOk(t, s, stmtOkByRules(s))
			if kind != right && (kind == impl.StSelect || right == impl.StSelect) {
				checkStmtOk(t, s, false)
			}
		}
	}
}

func TestStmtOkAtKindsAlone(t *testing.T) {
	for kind := -1; kind < 7; kind++ {
		checkStmtOk(t, impl.Stmt{Kind: kind}, false)
		checkStmtOk(t, impl.Stmt{Kind: kind, Query: starred()}, kind == impl.StSelect)
		checkStmtOk(t, impl.Stmt{Kind: kind, Table: "t"}, kind == impl.StDelete)
		checkStmtOk(t, impl.Stmt{Kind: kind, Table: "t", Where: []impl.Expr{chain(1)}}, kind == impl.StDelete)
		checkStmtOk(t, impl.Stmt{Kind: kind, Table: "t", Rows: [][]impl.Expr{{chain(1)}}}, kind == impl.StInsert)
		checkStmtOk(t, impl.Stmt{Kind: kind, Table: "t", Cols: []string{"c"}, Sets: []impl.Expr{chain(1)}}, kind == impl.StUpdate)
	}
}

// stmtFillers lists, for each field of a statement, ways to set it to something.
func stmtFillers() map[string][]func(s *impl.Stmt) {
	all := map[string][]func(s *impl.Stmt){}
	add := func(field string, fill func(s *impl.Stmt)) { all[field] = append(all[field], fill) }
	for _, name := range []string{"t", "\x00", " ", long(20), long(21)} {
		add("Table", func(s *impl.Stmt) { s.Table = name })
		add("Cols", func(s *impl.Stmt) { s.Cols = []string{name} })
	}
	add("Cols", func(s *impl.Stmt) { s.Cols = []string{""} })
	for _, e := range []impl.Expr{{}, chain(1), chain(2), lit(intOf(-1))} {
		add("Rows", func(s *impl.Stmt) { s.Rows = [][]impl.Expr{{e}} })
		add("Sets", func(s *impl.Stmt) { s.Sets = []impl.Expr{e} })
		add("Where", func(s *impl.Stmt) { s.Where = []impl.Expr{e} })
		add("Query", func(s *impl.Stmt) { s.Query.Items = items(e) })
		add("Query", func(s *impl.Stmt) { s.Query.Where = []impl.Expr{e} })
		add("Query", func(s *impl.Stmt) { s.Query.Order = keys(e) })
	}
	add("Rows", func(s *impl.Stmt) { s.Rows = make([][]impl.Expr, 1) })
	add("Rows", func(s *impl.Stmt) { s.Rows = [][]impl.Expr{{}, {}} })
	for _, limit := range []int{-1, 1, -2, 7, 1 << 32, math.MinInt, math.MaxInt} {
		add("Query", func(s *impl.Stmt) { s.Query.Limit = limit })
	}
	for _, x := range []impl.Source{{}, {Table: "t"}, {As: "t"}, {On: []impl.Expr{{}}}} {
		add("Query", func(s *impl.Stmt) { s.Query.From = []impl.Source{x} })
	}
	add("Query", func(s *impl.Stmt) { s.Query.Distinct = true })
	add("Query", func(s *impl.Stmt) { s.Query.Items = []impl.Item{{Star: true}} })
	for _, q := range []impl.Query{starred(), full(), selecting(chain(2)), joinedOn(chain(1))} {
		add("Query", func(s *impl.Stmt) { s.Query = q })
	}
	return all
}

func TestStmtOkAtFieldsThatMustBeZero(t *testing.T) {
	mustBeZero := map[int][]string{
		impl.StSelect: {"Table", "Rows", "Cols", "Sets", "Where"},
		impl.StInsert: {"Query", "Cols", "Sets", "Where"},
		impl.StUpdate: {"Query", "Rows"},
		impl.StDelete: {"Query", "Rows", "Cols", "Sets"},
	}
	for _, valid := range validStmts() {
		for _, field := range mustBeZero[valid.Kind] {
			for _, fill := range stmtFillers()[field] {
				s := copied(valid)
				fill(&s)
				checkStmtOk(t, s, false)
			}
		}
	}
}

func TestStmtOkAtCombinedFillers(t *testing.T) {
	for _, fills := range stmtFillers() {
		for _, fill := range fills {
			for kind := range 6 {
				s := impl.Stmt{Kind: kind}
				fill(&s)
				checkStmtOk(t, s, stmtOkByRules(s))
				for _, others := range stmtFillers() {
					for _, other := range others {
						both := s
						other(&both)
						checkStmtOk(t, both, stmtOkByRules(both))
					}
				}
			}
		}
	}
}

func TestStmtOkAtTables(t *testing.T) {
	for _, valid := range validStmts() {
		for size := range 60 {
			s := valid
			s.Table = long(size)
			named := s.Kind != impl.StSelect
			checkStmtOk(t, s, named && size >= 1 && size <= 20 || !named && size == 0)
		}
		for b := range 256 {
			s := valid
			s.Table = stringOfBytes(byte(b))
			checkStmtOk(t, s, s.Kind != impl.StSelect)
		}
	}
}

func TestStmtOkAtQueries(t *testing.T) {
	for _, q := range invalidQueries() {
		checkStmtOk(t, selectStmt(q), false)
	}
	visitMutants(full(), func(q impl.Query) { checkStmtOk(t, selectStmt(q), queryOkByRules(q)) })
	for _, limit := range append(edgeInts(), -3, -2, -1, 0, 1, math.MinInt, math.MaxInt) {
		q := full()
		q.Limit = limit
		checkStmtOk(t, selectStmt(q), limit >= -1)
	}
}

func TestStmtOkAtRows(t *testing.T) {
	for n := range 20 {
		checkStmtOk(t, insertStmt(repeated([]impl.Expr{chain(1), chain(2)}, n)...), n >= 1 && n <= 5)
		checkStmtOk(t, insertStmt(repeated([]impl.Expr{}, n)...), false)
	}
	for count := 1; count <= 5; count++ {
		for i := range count {
			for n := range 40 {
				rows := repeated([]impl.Expr{chain(1)}, count)
				rows[i] = repeated(chain(2), n)
				checkStmtOk(t, insertStmt(rows...), n >= 1 && n <= 12)
			}
			rows := repeated([]impl.Expr{chain(1)}, count)
			rows[i] = nil
			checkStmtOk(t, insertStmt(rows...), false)
		}
	}
	// Rows may differ in length, and the largest statement has 60 values.
	checkStmtOk(t, insertStmt(repeated(chain(1), 12), repeated(chain(2), 1), repeated(chain(1), 7)), true)
	checkStmtOk(t, insertStmt(repeated(repeated(chain(3), 12), 5)...), true)
}

func TestStmtOkAtColsAndSets(t *testing.T) {
	for cols := range 30 {
		for sets := range 30 {
			for where := range 4 {
				s := updateStmt(repeated(chain(2), sets), repeated(chain(1), where)...)
				s.Cols = repeated("c", cols)
				checkStmtOk(t, s, cols == sets && cols >= 1 && cols <= 12 && where <= 1)
			}
		}
	}
	for count := 1; count <= 12; count++ {
		for i := range count {
			for size := range 45 {
				s := updateStmt(repeated(chain(1), count))
				s.Cols[i] = long(size)
				checkStmtOk(t, s, size >= 1 && size <= 20)
			}
		}
	}
	// A column may occur twice, and a column may have any name.
	s := updateStmt(repeated(chain(1), 3), chain(1))
	s.Cols = []string{"select", "\x00\"", "select"}
	checkStmtOk(t, s, true)
}

func TestStmtOkAtWhere(t *testing.T) {
	for n := range 40 {
		where := repeated(chain(2), n)
		checkStmtOk(t, deleteStmt(where...), n <= 1)
		checkStmtOk(t, updateStmt([]impl.Expr{chain(1)}, where...), n <= 1)
		checkStmtOk(t, updateStmt(nil, where...), false)
	}
}

func TestStmtOkAtExpressionsThatAreNot(t *testing.T) {
	wide := []impl.Stmt{
		selectStmt(full()), insertStmt(repeated(repeated(chain(1), 12), 5)...), updateStmt(repeated(chain(1), 12), chain(1)), deleteStmt(chain(1)),
	}
	for _, bad := range append(invalidExprs(), exists(invalidQueries()[2]), applied(impl.OpNot, lit(intOf(-1)))) {
		for _, s := range stmtsWith(bad) {
			checkStmtOk(t, s, false)
		}
		for _, s := range wide {
			checkStmtOk(t, s, true)
			replacedIn(s, bad, func(other impl.Stmt) { checkStmtOk(t, other, false) })
		}
	}
}

func TestStmtOkAtDepths(t *testing.T) {
	for n := 1; n <= 60; n++ {
		for _, s := range stmtsWith(chain(n)) {
			checkStmtOk(t, s, n <= 24)
		}
		for _, q := range queriesWith(chain(n)) {
			for _, s := range stmtsWith(exists(q)) {
				checkStmtOk(t, s, n <= 23)
			}
		}
		replacedIn(insertStmt(repeated(repeated(chain(1), 12), 5)...), chain(n), func(s impl.Stmt) { checkStmtOk(t, s, n <= 24) })
		replacedIn(updateStmt(repeated(chain(2), 12), chain(3)), chain(n), func(s impl.Stmt) { checkStmtOk(t, s, n <= 24) })
	}
}

func TestStmtOkAtSizes(t *testing.T) {
	for _, n := range []int{1, 2, 49, 50, 51, 81, 82, 83, 139, 140, 141, 198, 199, 200, 201, 202, 256, 457, 1000} {
		list := stmtsWith(bush(n))
		for _, s := range list[:len(list)-1] {
			checkStmtOk(t, s, n <= 200)
		}
		checkStmtOk(t, list[len(list)-1], n <= 199)
		// The sizes of all expressions are added.
		replacedIn(insertStmt(repeated(repeated(chain(2), 12), 5)...), bush(n), func(s impl.Stmt) { checkStmtOk(t, s, n <= 82) })
		replacedIn(updateStmt(repeated(chain(5), 12), chain(5)), bush(n), func(s impl.Stmt) { checkStmtOk(t, s, n <= 140) })
		parts := joinedOn(bush(30))
		parts.Items, parts.Where, parts.Order = items(bush(20), bush(n)), []impl.Expr{bush(40)}, keys(bush(10), bush(50))
		checkStmtOk(t, selectStmt(parts), n <= 50)
	}
	row := repeated(chain(20), 10)
	checkStmtOk(t, insertStmt(row), true)
	checkStmtOk(t, insertStmt(row[:5], row[5:]), true)
	checkStmtOk(t, insertStmt(row[:5], row[5:], []impl.Expr{chain(1)}), false)
	checkStmtOk(t, updateStmt(row), true)
	checkStmtOk(t, updateStmt(row, chain(1)), false)
	checkStmtOk(t, updateStmt(row[:9], chain(20)), true)
	checkStmtOk(t, updateStmt(row[:9], chain(21)), false)
}

// TestPartsOfValidStatements checks that a valid statement is bounded and that its expressions are valid.
func TestPartsOfValidStatements(t *testing.T) {
	random := rand.New(rand.NewSource(80))
	list := validStmts()
	for i := range 1000 {
		list = append(list, randomStmt(random, 1+i%6))
	}
	for _, s := range list {
		if !impl.StmtOk(s) {
			continue
		}
		if impl.StmtDepth(s) > 24 || impl.StmtSize(s) > 200 {
			t.Errorf("a valid statement has the depth %d and the size %d", impl.StmtDepth(s), impl.StmtSize(s))
		}
		for _, e := range impl.ExprsOf(s) {
			checkParts(t, e)
		}
	}
}

// randomStmt returns a statement that is valid unless it is too deep, too large, or has a table without a name.
func randomStmt(random *rand.Rand, depth int) impl.Stmt {
	part := func() impl.Expr { return randomExpr(random, depth-random.Intn(3)) }
	s := impl.Stmt{Kind: 1 + random.Intn(4)}
	if s.Kind == impl.StSelect {
		s.Query = randomQuery(random, depth)
	} else {
		s.Table = long(1 + random.Intn(20))
	}
	switch s.Kind {
	case impl.StInsert:
		for range 1 + random.Intn(5) {
			s.Rows = append(s.Rows, []impl.Expr{part(), part()}[:1+random.Intn(2)])
		}
	case impl.StUpdate:
		for range 1 + random.Intn(4) {
			s.Cols = append(s.Cols, long(1+random.Intn(20)))
			s.Sets = append(s.Sets, part())
		}
		fallthrough
	case impl.StDelete:
		for range random.Intn(2) {
			s.Where = append(s.Where, part())
		}
	}
	renameTables(reflect.ValueOf(&s).Elem(), func() string { return []string{"", "a", "b", "c", "d", "e", "f", "t"}[min(random.Intn(40), 7)] })
	return s
}

// renameTables gives names to most tables in v, so that few of them occur once.
func renameTables(v reflect.Value, pick func() string) {
	switch v.Kind() {
	case reflect.Struct:
		if _, ok := v.Interface().(impl.Source); ok {
			v.FieldByName("Table").SetString(pick())
		}
		for i := range v.NumField() {
			renameTables(v.Field(i), pick)
		}
	case reflect.Slice:
		for i := range v.Len() {
			renameTables(v.Index(i), pick)
		}
	}
}

// checkStmtByRules compares all functions of one statement with the rules.
func checkStmtByRules(t *testing.T, s impl.Stmt) {
	t.Helper()
	checkStmtOk(t, s, stmtOkByRules(s))
	checkStmtMeasures(t, s, stmtDepthByRules(s), stmtSizeByRules(s))
	checkExprsOf(t, s, exprsByRules(s)...)
	checkTables(t, s, tablesByRules(s)...)
}

func TestStatementMutantsByRules(t *testing.T) {
	ok := 0
	for _, s := range append(validStmts()[1:], everywhere()) {
		visitMutants(s, func(other impl.Stmt) {
			checkStmtByRules(t, other)
			if impl.StmtOk(other) {
				ok++
			}
		})
	}
	if ok < 1000 {
		t.Errorf("only %d mutants are valid", ok)
	}
}

func TestRandomStatementsByRules(t *testing.T) {
	random := rand.New(rand.NewSource(81))
	oks := map[bool]int{}
	for i := range 1500 {
		s, other := randomStmt(random, 1+i%9), randomStmt(random, 1+i%3)
		checkStmtByRules(t, s)
		oks[impl.StmtOk(s)]++
		checkSameForms(t, impl.SameStmt, s)
		checkSame(t, impl.SameStmt, s, other, sameByRules(s, other))
	}
	if oks[true] < 100 || oks[false] < 100 {
		t.Errorf("%d random statements are valid and %d are not", oks[true], oks[false])
	}
}

func TestSameStmtAtEqualStatements(t *testing.T) {
	for _, s := range append(validStmts(), impl.Stmt{}, everywhere(), impl.Stmt{Kind: 7, Query: full(), Rows: [][]impl.Expr{nil, {chain(2)}}}) {
		checkSameForms(t, impl.SameStmt, s)
	}
	for _, e := range append(validExprs(), invalidExprs()...) {
		for _, s := range stmtsWith(e) {
			checkSameForms(t, impl.SameStmt, s)
		}
	}
	checkSame(t, impl.SameStmt, everywhere(), everywhere(), true)
	checkSame(t, impl.SameStmt, selectStmt(full()), selectStmt(full()), true)
	checkSame(t, impl.SameStmt, insertStmt(nil), insertStmt([]impl.Expr{}), true)
}

func TestSameStmtAtMutants(t *testing.T) {
	deep := everywhere()
	deep.Query.Items[1].Expr = exists(joinedOn(chain(2)))
	deep.Rows[0][1] = inSub(true, chain(1), selecting(chain(2)))
	deep.Sets[1] = impl.Expr{Kids: []impl.Expr{chain(1), {}}, Sub: []impl.Query{{}, starred()}}
	deep.Where[0] = exists(full())
	for _, s := range append(validStmts(), impl.Stmt{}, deep) {
		visitMutants(s, func(other impl.Stmt) {
			checkSame(t, impl.SameStmt, s, other, false)
			checkSame(t, impl.SameStmt, other, other, true)
		})
	}
}

func TestSameStmtAtEachPlace(t *testing.T) {
	for _, e := range []impl.Expr{{}, chain(1), chain(2), column("t", "x1"), exists(full())} {
		var list []impl.Stmt
		replacedIn(everywhere(), e, func(s impl.Stmt) { list = append(list, s) })
		for i, a := range list {
			checkSame(t, impl.SameStmt, a, everywhere(), false)
			for j, b := range list {
				checkSame(t, impl.SameStmt, a, b, i == j)
			}
		}
	}
}

// TestSameStmtAtMovedParts has statements with the same expressions in the same order, but in different places.
func TestSameStmtAtMovedParts(t *testing.T) {
	var list []impl.Stmt
	for _, e := range []impl.Expr{chain(1), chain(2), {}} {
		one, two := []impl.Expr{e}, []impl.Expr{e, e}
		for _, q := range queriesWith(e) {
			list = append(list, impl.Stmt{Query: q}, impl.Stmt{Query: q, Where: one})
		}
		list = append(list,
			impl.Stmt{Sets: one}, impl.Stmt{Sets: two}, impl.Stmt{Where: one}, impl.Stmt{Where: two}, impl.Stmt{Sets: one, Where: one},
			impl.Stmt{Rows: [][]impl.Expr{one}}, impl.Stmt{Rows: [][]impl.Expr{two}}, impl.Stmt{Rows: [][]impl.Expr{one, one}},
			impl.Stmt{Rows: [][]impl.Expr{two, {}}}, impl.Stmt{Rows: [][]impl.Expr{{}, two}}, impl.Stmt{Rows: [][]impl.Expr{one, {}, one}},
			impl.Stmt{Rows: [][]impl.Expr{one}, Sets: one}, impl.Stmt{Rows: [][]impl.Expr{one}, Where: one},
			impl.Stmt{Query: impl.Query{Where: one}}, impl.Stmt{Query: impl.Query{Where: two}}, impl.Stmt{Query: impl.Query{Where: one}, Sets: one})
	}
	list = append(list, impl.Stmt{Rows: make([][]impl.Expr, 1)}, impl.Stmt{Rows: make([][]impl.Expr, 2)},
		impl.Stmt{Table: "ab"}, impl.Stmt{Cols: []string{"ab"}}, impl.Stmt{Cols: []string{"a", "b"}}, impl.Stmt{Cols: []string{"", "ab"}}, impl.Stmt{Cols: []string{"ab", ""}}, impl.Stmt{Table: "a", Cols: []string{"b"}})
	for i, a := range list {
		for j, b := range list {
			checkSame(t, impl.SameStmt, a, b, i == j)
		}
	}
}

func TestSameStmtAtListsOfDifferentLength(t *testing.T) {
	for n := range 8 {
		for m := range 8 {
			a, b := repeated(chain(2), n), repeated(chain(2), m)
			checkSame(t, impl.SameStmt, impl.Stmt{Sets: a}, impl.Stmt{Sets: b}, n == m)
			checkSame(t, impl.SameStmt, deleteStmt(a...), deleteStmt(b...), n == m)
			checkSame(t, impl.SameStmt, insertStmt(a), insertStmt(b), n == m)
			checkSame(t, impl.SameStmt, insertStmt(a, b), insertStmt(b, a), n == m)
			checkSame(t, impl.SameStmt, insertStmt(repeated(a, n)...), insertStmt(repeated(a, m)...), n == m)
			checkSame(t, impl.SameStmt, impl.Stmt{Cols: repeated("", n)}, impl.Stmt{Cols: repeated("", m)}, n == m)
			checkSame(t, impl.SameStmt, selectStmt(selecting(a...)), selectStmt(selecting(b...)), n == m)
		}
	}
}

func checkTables(t *testing.T, s impl.Stmt, want ...string) {
	t.Helper()
	if got := impl.TablesIn(s); !slices.Equal(got, want) {
		t.Errorf("TablesIn returns %q, want %q at %s", got, want, described(s))
	}
}

// from returns a query without expressions.
func from(tables ...string) impl.Query {
	var q impl.Query
	for _, name := range tables {
		q.From = append(q.From, impl.Source{Table: name})
	}
	return q
}

// over returns an expression with a Sub of each table.
func over(tables ...string) impl.Expr {
	var e impl.Expr
	for _, name := range tables {
		e.Sub = append(e.Sub, from(name))
	}
	return e
}

func TestTablesInNone(t *testing.T) {
	list := []impl.Stmt{{}, selectStmt(from("")), selectStmt(from("", "", "")), deleteStmt(over("", "")), everywhere()}
	list[3].Table, list[4].Table = "", ""
	for i := range list[4].Query.From {
		list[4].Query.From[i].Table = ""
	}
	for _, s := range list {
		checkTables(t, s)
		checkTables(t, remade(s, emptyLists))
	}
	// An alias, a column and a qualifier are no tables, and what a Star has for an expression does not count.
	q := impl.Query{From: []impl.Source{{As: "a"}}, Items: []impl.Item{{As: "b", Qual: "c"}, {Star: true, Qual: "d", Expr: over("e")}}}
	checkTables(t, impl.Stmt{Query: q, Cols: []string{"f"}, Sets: []impl.Expr{column("g", "h")}})
}

func TestTablesInTableAndFrom(t *testing.T) {
	checkTables(t, deleteStmt(), "t")
	checkTables(t, impl.Stmt{Table: "select", Kind: -1}, "select")
	checkTables(t, selectStmt(from("b", "a", "c")), "b", "a", "c")
	checkTables(t, selectStmt(from("b", "", "c")), "b", "c")
	checkTables(t, impl.Stmt{Table: "z", Query: from("b", "a")}, "z", "b", "a")
	// The case of letters matters, and neither length nor bytes do.
	checkTables(t, selectStmt(from("a", "A", "a ", "\x00", "\xff", long(100), long(101), "a")), "a", "A", "a ", "\x00", "\xff", long(100), long(101))
}

func TestTablesThatOccurTwice(t *testing.T) {
	checkTables(t, selectStmt(from("a", "a")), "a")
	checkTables(t, selectStmt(from("a", "b", "a", "b", "b", "a")), "a", "b")
	checkTables(t, impl.Stmt{Table: "a", Query: from("a")}, "a")
	checkTables(t, impl.Stmt{Table: "b", Query: from("a", "b", "a")}, "b", "a")
	checkTables(t, deleteStmt(over("t")), "t")
	checkTables(t, deleteStmt(over("u", "t", "u"), over("u")), "t", "u")
	checkTables(t, updateStmt([]impl.Expr{over("b"), over("a"), over("b")}, over("a")), "t", "b", "a")
	checkTables(t, insertStmt([]impl.Expr{over("b"), over("t")}, []impl.Expr{over("a", "b")}), "t", "b", "a")
	q := from("a", "b")
	q.Where = []impl.Expr{over("b", "c"), over("a", "c")}
	checkTables(t, selectStmt(q), "a", "b", "c")
	q.From[1].Table = ""
	checkTables(t, selectStmt(q), "a", "b", "c")
	q.From[0].Table = ""
	checkTables(t, selectStmt(q), "b", "c", "a")
	nested := from("a")
	for _, name := range []string{"b", "a", "b", "", "a"} {
		outer := from(name)
		outer.Where = []impl.Expr{{Sub: []impl.Query{nested}}}
		nested = outer
	}
	checkTables(t, selectStmt(nested), "a", "b")
	checkTables(t, selectStmt(from(repeated("x", 1000)...)), "x")
}

func TestTablesInEachPlace(t *testing.T) {
	replacedIn(everywhere(), over("x", "y"), func(s impl.Stmt) { checkTables(t, s, "w", "t", "u", "v", "x", "y") })
	// In a Sub too, every place counts, and its From comes first.
	inner := everywhere().Query
	for i := range placesInQuery(&inner) {
		q := copied(inner)
		*placesInQuery(&q)[i] = over("x", "u", "y")
		checkTables(t, deleteStmt(exists(q)), "t", "u", "v", "x", "y")
		checkTables(t, insertStmt(nil, []impl.Expr{applied(impl.OpNot, exists(q))}), "t", "u", "v", "x", "y")
		checkTables(t, impl.Stmt{Sets: []impl.Expr{inSub(false, over("y"), q)}}, "y", "t", "u", "v", "x")
	}
}

// overEach returns s with a Sub in each place, of tables whose names count the places.
func overEach(s impl.Stmt) impl.Stmt {
	for i, e := range placesIn(&s) {
		*e = over(fmt.Sprint("x", i+1))
	}
	return s
}

func TestTablesInOrder(t *testing.T) {
	want := []string{"w", "t", "u", "v"}
	for i := range 16 {
		want = append(want, fmt.Sprint("x", i+1))
	}
	s := overEach(everywhere())
	checkTables(t, s, want...)
	checkTables(t, deleteStmt(exists(s.Query)), append([]string{"t", "u", "v"}, want[4:13]...)...)
	// Kids are visited before the Sub beside them, and the tables of a Sub before those within it.
	e := impl.Expr{Kids: []impl.Expr{over("b", "a"), {Kids: []impl.Expr{over("d")}, Sub: over("c").Sub}}, Sub: over("e", "f").Sub}
	checkTables(t, impl.Stmt{Where: []impl.Expr{e}}, "b", "a", "d", "c", "e", "f")
	e.Sub[0].Where = []impl.Expr{over("g"), {Kids: []impl.Expr{over("h")}, Sub: over("i").Sub}}
	checkTables(t, impl.Stmt{Where: []impl.Expr{e, over("j", "a")}}, "b", "a", "d", "c", "e", "g", "h", "i", "f", "j")
	e.Kids[0].Sub[1].Where = []impl.Expr{over("f")}
	checkTables(t, impl.Stmt{Sets: []impl.Expr{e}}, "b", "a", "f", "d", "c", "e", "g", "h", "i")
	checkTables(t, deleteStmt(inSub(true, exists(from("a")), from("b"))), "t", "a", "b")
	checkTables(t, deleteStmt(inSub(true, exists(from("b", "c")), from("a", "b"))), "t", "b", "c", "a")
}

func TestTablesInIsNewEachTime(t *testing.T) {
	s := overEach(everywhere())
	first, second := impl.TablesIn(s), impl.TablesIn(s)
	overwrite(reflect.ValueOf(first))
	if !slices.Equal(second, tablesByRules(s)) || !slices.Equal(impl.TablesIn(s), second) {
		t.Error("a change of what TablesIn returns changes another result")
	}
}

// callStmts calls every function of statements with s.
func callStmts(s impl.Stmt) {
	overwrite(reflect.ValueOf(impl.ExprsOf(s)))
	impl.StmtDepth(s)
	impl.StmtSize(s)
	impl.StmtOk(s)
	impl.SameStmt(s, s)
	impl.SameStmt(s, impl.Stmt{})
	overwrite(reflect.ValueOf(impl.TablesIn(s)))
}

func TestStatementsAreNotChanged(t *testing.T) {
	random := rand.New(rand.NewSource(82))
	list := append(somewhere(), overEach(everywhere()))
	list = append(list, validStmts()...)
	for _, e := range append(validExprs(), invalidExprs()...) {
		list = append(list, stmtsWith(e)...)
	}
	for i := range 300 {
		list = append(list, randomStmt(random, 1+i%7))
	}
	for _, s := range list {
		// With unused capacity in every slice, an append to one of them is seen too.
		roomy := remade(s, roomyLists)
		before := remade(roomy, wholeLists)
		callStmts(roomy)
		if !reflect.DeepEqual(remade(roomy, wholeLists), before) {
			t.Errorf("a call changes %s", described(s))
		}
	}
}

func checkDeepStmts(t *testing.T, list, same, others []impl.Stmt, depth int, tables ...string) {
	t.Helper()
	for i, s := range list {
		all := exprsByRules(s)
		if d, n := impl.StmtDepth(s), impl.StmtSize(s); d != depth || n != depth+len(all)-1 {
			t.Errorf("the depth and the size of a very deep statement are %d and %d", d, n)
		}
		checkNoHuge(t, s)
		if !impl.SameStmt(s, same[i]) || impl.SameStmt(s, others[i]) {
			t.Error("very deep statements are not told apart by their leaves alone")
		}
		got := impl.ExprsOf(s)
		if len(got) != len(all) || !impl.SameExpr(got[len(got)-1], all[len(all)-1]) {
			t.Error("ExprsOf does not return a very deep expression")
		}
		if names := impl.TablesIn(s); !slices.Equal(names, tables) {
			t.Errorf("the tables of a very deep statement are %q", names)
		}
	}
}

// TestVeryDeepStatements has statements for which a stack that ends early would not suffice if a function called itself for each part.
func TestVeryDeepStatements(t *testing.T) {
	defer debug.SetMaxStack(debug.SetMaxStack(1 << 24))
	a, b, c := nested(200001, chain(1), false), nested(200001, chain(1), false), nested(200001, lit(null), false)
	checkDeepStmts(t, []impl.Stmt{deleteStmt(a)}, []impl.Stmt{deleteStmt(b)}, []impl.Stmt{deleteStmt(c)}, 200001, "t")
	a, b, c = nested(20001, chain(1), true), nested(20001, chain(1), true), nested(20001, lit(null), true)
	checkDeepStmts(t, stmtsWith(a), stmtsWith(b), stmtsWith(c), 20001, "t", "u")
}

// checkNoHuge describes no statement, since that would not end.
func checkNoHuge(t *testing.T, s impl.Stmt) {
	t.Helper()
	if impl.StmtOk(s) {
		t.Errorf("a huge statement of the kind %d is valid", s.Kind)
	}
}

// TestHugeStatements has statements of so many expressions that StmtOk must decide before it has visited them.
func TestHugeStatements(t *testing.T) {
	huge := chain(1)
	for range 60 {
		huge = applied(impl.OpAdd, huge, huge)
	}
	endless := []impl.Expr{applied(impl.OpNot, chain(1))}
	endless[0].Kids = endless
	for _, s := range append(stmtsWith(huge), stmtsWith(endless[0])...) {
		for kind := range 6 {
			s.Kind = kind
			checkNoHuge(t, s)
			s.Table = "t"
			checkNoHuge(t, s)
		}
	}
	for kind := range 6 {
		replacedIn(everywhere(), huge, func(s impl.Stmt) {
			s.Kind = kind
			checkNoHuge(t, s)
		})
	}
}

func TestWideStatements(t *testing.T) {
	wide := repeated(chain(1), 300000)
	for _, s := range []impl.Stmt{insertStmt(wide), updateStmt(wide), updateStmt(nil, wide...), deleteStmt(wide...), selectStmt(selecting(wide...))} {
		checkNoHuge(t, s)
		if d, n := impl.StmtDepth(s), impl.StmtSize(s); d != 1 || n != 300000 {
			t.Errorf("the depth and the size of a wide statement are %d and %d", d, n)
		}
	}
	checkNoHuge(t, insertStmt(repeated([]impl.Expr{}, 300000)...))
}
