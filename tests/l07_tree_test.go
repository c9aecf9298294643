package tests

import (
	"fmt"
	"math"
	"math/rand"
	"reflect"
	"slices"
	"strings"
	"testing"

	"loop.example/g00495/impl"
)

func lit(v impl.Value) impl.Expr { return impl.Expr{Kind: impl.ExLit, Value: v} }

func column(qual, name string) impl.Expr {
	return impl.Expr{Kind: impl.ExCol, Qual: qual, Name: name}
}

// applied returns an ExUn for one operand and an ExBin for two.
func applied(op int, kids ...impl.Expr) impl.Expr {
	return impl.Expr{Kind: impl.ExUn + len(kids) - 1, Op: op, Kids: kids}
}

// tested returns an ExIs, an ExBetween or an ExIn.
func tested(kind int, not bool, kids ...impl.Expr) impl.Expr {
	return impl.Expr{Kind: kind, Not: not, Kids: kids}
}

func inSub(not bool, kid impl.Expr, q impl.Query) impl.Expr {
	return impl.Expr{Kind: impl.ExInSub, Not: not, Kids: []impl.Expr{kid}, Sub: []impl.Query{q}}
}

func exists(q impl.Query) impl.Expr { return impl.Expr{Kind: impl.ExExists, Sub: []impl.Query{q}} }

func items(list ...impl.Expr) []impl.Item {
	var all []impl.Item
	for _, e := range list {
		all = append(all, impl.Item{Expr: e})
	}
	return all
}

func keys(list ...impl.Expr) []impl.SortKey {
	var all []impl.SortKey
	for _, e := range list {
		all = append(all, impl.SortKey{Expr: e})
	}
	return all
}

// starred returns a valid query without expressions.
func starred() impl.Query {
	return impl.Query{Items: []impl.Item{{Star: true}}, From: []impl.Source{{Table: "t"}}, Limit: -1}
}

func selecting(list ...impl.Expr) impl.Query {
	q := starred()
	q.Items = items(list...)
	return q
}

// joinedOn returns a valid query without expressions except for the On condition of its second source.
func joinedOn(on ...impl.Expr) impl.Query {
	q := starred()
	q.From = []impl.Source{{Table: "t"}, {Table: "u", On: on}}
	return q
}

// queriesWith returns valid queries whose only expression is e, in each of the places of an expression.
func queriesWith(e impl.Expr) []impl.Query {
	where, order := starred(), starred()
	where.Where = []impl.Expr{e}
	order.Order = keys(e)
	return []impl.Query{selecting(e), joinedOn(e), where, order}
}

// chain returns an expression of the depth and the size n.
func chain(n int) impl.Expr {
	e := lit(intOf(1))
	for range n - 1 {
		e = applied(impl.OpNot, e)
	}
	return e
}

// bush returns an expression of the size n that is about as shallow as it can be with operators.
func bush(n int) impl.Expr {
	switch n {
	case 1:
		return column("", "a")
	case 2:
		return applied(impl.OpNeg, bush(1))
	}
	return applied(impl.OpAdd, bush((n-1)/2), bush(n-1-(n-1)/2))
}

func repeated[T any](x T, n int) []T { return slices.Repeat([]T{x}, n) }

// full returns a valid query that uses every field.
func full() impl.Query {
	a, b := column("", "a"), column("t", "b")
	deep := selecting(tested(impl.ExIs, true, a), applied(impl.OpCat, b, lit(textOf("x"))))
	deep.Limit = 0
	mid := joinedOn(applied(impl.OpEq, a, b))
	mid.Items = append(mid.Items, impl.Item{Expr: tested(impl.ExBetween, true, a, lit(intOf(1)), lit(intOf(9))), As: "m"})
	mid.Where = []impl.Expr{inSub(true, a, deep)}
	return impl.Query{
		Distinct: true,
		Items: []impl.Item{
			{Star: true},
			{Star: true, Qual: "t"},
			{Expr: b, As: "x y"},
			{Expr: tested(impl.ExIn, false, a, lit(yes), lit(no), lit(null))},
		},
		From: []impl.Source{
			{Table: "t"},
			{Table: "u", As: "v", On: []impl.Expr{applied(impl.OpNot, exists(starred()))}},
			{Table: "w", As: "z"},
		},
		Where: []impl.Expr{applied(impl.OpOr, exists(mid), applied(impl.OpNeg, a))},
		Order: []impl.SortKey{{Expr: b, Desc: true}, {Expr: tested(impl.ExIs, false, lit(textOf("it's")))}},
		Limit: 7,
	}
}

// validExprs lists valid expressions of every kind.
func validExprs() []impl.Expr {
	a, one := column("", "a"), lit(intOf(1))
	list := []impl.Expr{
		lit(null), one, lit(intOf(0)), lit(intOf(math.MaxInt)), lit(textOf("")), lit(textOf("it's")), lit(yes), lit(no),
		a, column("t", "b"), column("select", "\"\x00"),
		applied(impl.OpNot, a), applied(impl.OpNeg, one),
		exists(starred()), exists(full()),
	}
	for op := impl.OpOr; op <= impl.OpRem; op++ {
		list = append(list, applied(op, a, one))
	}
	for _, not := range []bool{false, true} {
		list = append(list,
			tested(impl.ExIs, not, a),
			tested(impl.ExBetween, not, a, one, lit(null)),
			tested(impl.ExIn, not, a, one),
			tested(impl.ExIn, not, repeated(one, 9)...),
			inSub(not, a, starred()),
			inSub(not, exists(starred()), joinedOn(a)))
	}
	return list
}

// remade returns a copy of x in which remake has replaced every slice by another one with the same elements, outer slices first.
func remade[T any](x T, remake func(list reflect.Value) reflect.Value) T {
	return remadeValue(reflect.ValueOf(x), remake).Interface().(T)
}

func remadeValue(v reflect.Value, remake func(list reflect.Value) reflect.Value) reflect.Value {
	switch v.Kind() {
	case reflect.Struct:
		all := reflect.New(v.Type()).Elem()
		for i := range v.NumField() {
			all.Field(i).Set(remadeValue(v.Field(i), remake))
		}
		return all
	case reflect.Slice:
		list := remake(v)
		for i := range list.Len() {
			list.Index(i).Set(remadeValue(list.Index(i), remake))
		}
		return list
	}
	return v
}

func copiedList(list reflect.Value, spare int) reflect.Value {
	all := reflect.MakeSlice(list.Type(), list.Len()+spare, list.Len()+spare)
	reflect.Copy(all, list)
	return all.Slice(0, list.Len())
}

// nilLists turns every empty slice into nil.
func nilLists(list reflect.Value) reflect.Value {
	if list.Len() == 0 {
		return reflect.Zero(list.Type())
	}
	return copiedList(list, 0)
}

// emptyLists turns every nil slice into an empty one.
func emptyLists(list reflect.Value) reflect.Value { return copiedList(list, 0) }

// roomyLists adds unused capacity to every slice.
func roomyLists(list reflect.Value) reflect.Value { return copiedList(list, 3) }

// wholeLists extends every slice over its unused capacity.
func wholeLists(list reflect.Value) reflect.Value {
	return copiedList(list.Slice(0, list.Cap()), 0)
}

func copied[T any](x T) T { return remade(x, nilLists) }

// sameByRules takes nil and empty slices for the same, and tells all else apart.
func sameByRules[T any](a, b T) bool { return reflect.DeepEqual(copied(a), copied(b)) }

// visitMutants calls visit with each tree that parts from x in a single field or element. Visit must not keep the tree.
func visitMutants[T any](x T, visit func(T)) {
	tree := copied(x)
	mutate(reflect.ValueOf(&tree).Elem(), func() { visit(tree) })
}

// mutate gives the place v, and then each place within it, other values for the time of a visit.
func mutate(v reflect.Value, visit func()) {
	try := func(other reflect.Value) {
		old := reflect.New(v.Type()).Elem()
		old.Set(v)
		v.Set(other)
		visit()
		v.Set(old)
	}
	switch v.Kind() {
	case reflect.Bool:
		try(reflect.ValueOf(!v.Bool()))
	case reflect.Int:
		for _, n := range otherInts(int(v.Int())) {
			try(reflect.ValueOf(n))
		}
	case reflect.String:
		for _, s := range otherStrings(v.String()) {
			try(reflect.ValueOf(s))
		}
	case reflect.Struct:
		for i := range v.NumField() {
			mutate(v.Field(i), visit)
		}
	case reflect.Slice:
		for i := range v.Len() {
			mutate(v.Index(i), visit)
		}
		for _, list := range otherLists(v) {
			try(list)
		}
	}
}

func otherInts(n int) []int {
	list := []int{n - 1, n + 1, n + 256, n + 1<<32, math.MinInt, math.MaxInt, -2, -1, 0, 1, 2, 9, 10, 14, 15, 16, 17}
	return slices.DeleteFunc(list, func(i int) bool { return i == n })
}

func otherStrings(s string) []string {
	list := []string{"", "a", "\x00", s + "x", strings.ToUpper(s), long(20), long(21), long(40), long(41)}
	if s != "" {
		list = append(list, s[1:])
	}
	return slices.DeleteFunc(list, func(other string) bool { return other == s })
}

// otherLists returns slices with an element less, with one more, and with two neighbours exchanged.
func otherLists(v reflect.Value) []reflect.Value {
	cut := func(from, to int) reflect.Value { return copiedList(v.Slice(from, to), 0) }
	all := []reflect.Value{reflect.Append(cut(0, v.Len()), reflect.Zero(v.Type().Elem()))}
	for i := range v.Len() {
		all = append(all, reflect.AppendSlice(cut(0, i), cut(i+1, v.Len())), reflect.AppendSlice(cut(0, i+1), cut(i, v.Len())))
		if i > 0 && !reflect.DeepEqual(v.Index(i-1).Interface(), v.Index(i).Interface()) {
			swapped := cut(0, v.Len())
			swapped.Index(i - 1).Set(v.Index(i))
			swapped.Index(i).Set(v.Index(i - 1))
			all = append(all, swapped)
		}
	}
	return all
}

func TestTreeConstants(t *testing.T) {
	limits := []int{impl.MaxDepth, impl.MaxNodes, impl.MaxItems, impl.MaxFrom, impl.MaxList}
	if !slices.Equal(limits, []int{24, 200, 12, 3, 8}) {
		t.Errorf("the limits are %v", limits)
	}
	kinds := []int{impl.ExLit, impl.ExCol, impl.ExUn, impl.ExBin, impl.ExIs, impl.ExBetween, impl.ExIn, impl.ExInSub, impl.ExExists}
	if !slices.Equal(kinds, []int{1, 2, 3, 4, 5, 6, 7, 8, 9}) {
		t.Errorf("the kinds of expressions are %v", kinds)
	}
}

func checkMeasures(t *testing.T, e impl.Expr, depth, size int) {
	t.Helper()
	if d, n := impl.DepthOf(e), impl.SizeOf(e); d != depth || n != size {
		t.Errorf("the depth and the size are %d and %d, want %d and %d", d, n, depth, size)
	}
}

func checkQueryMeasures(t *testing.T, q impl.Query, depth, size int) {
	t.Helper()
	if d, n := impl.QueryDepth(q), impl.QuerySize(q); d != depth || n != size {
		t.Errorf("the depth and the size of a query are %d and %d, want %d and %d", d, n, depth, size)
	}
}

func TestMeasuresOfChains(t *testing.T) {
	checkMeasures(t, impl.Expr{}, 1, 1)
	checkMeasures(t, lit(intOf(5)), 1, 1)
	checkMeasures(t, column("t", "a"), 1, 1)
	for n := 1; n <= 60; n++ {
		checkMeasures(t, chain(n), n, n)
	}
	checkMeasures(t, applied(impl.OpNeg, applied(impl.OpAdd, chain(1), chain(1))), 3, 4)
	checkMeasures(t, applied(impl.OpAdd, chain(1), applied(impl.OpAdd, chain(1), applied(impl.OpAdd, chain(1), chain(1)))), 4, 7)
	checkMeasures(t, applied(impl.OpAdd, applied(impl.OpAdd, applied(impl.OpAdd, chain(1), chain(1)), chain(1)), chain(1)), 4, 7)
}

func TestMeasuresOfWideExpressions(t *testing.T) {
	for n := range 40 {
		checkMeasures(t, tested(impl.ExIn, false, repeated(chain(1), n)...), 1+min(n, 1), 1+n)
		checkMeasures(t, tested(impl.ExIn, false, repeated(chain(4), n)...), 1+4*min(n, 1), 1+4*n)
	}
	checkMeasures(t, tested(impl.ExIn, false, chain(1), chain(5), chain(3)), 6, 10)
	checkMeasures(t, tested(impl.ExIn, false, chain(5), chain(1), chain(3)), 6, 10)
	checkMeasures(t, tested(impl.ExIn, false, chain(1), chain(3), chain(5)), 6, 10)
	for _, n := range []int{1, 2, 3, 199, 200, 201, 1000} {
		if size := impl.SizeOf(bush(n)); size != n {
			t.Errorf("the size of an expression of %d parts is %d", n, size)
		}
	}
	checkMeasures(t, bush(1023), 10, 1023)
}

func TestMeasuresOfSeveralKidsAndSub(t *testing.T) {
	two := []impl.Query{selecting(chain(2)), selecting(chain(6), chain(1))}
	checkMeasures(t, impl.Expr{Sub: two}, 7, 10)
	checkMeasures(t, impl.Expr{Sub: []impl.Query{two[1], two[0]}}, 7, 10)
	checkMeasures(t, impl.Expr{Kids: []impl.Expr{chain(3), chain(4)}, Sub: two}, 7, 17)
	checkMeasures(t, impl.Expr{Kids: []impl.Expr{chain(3), chain(8)}, Sub: two}, 9, 21)
	checkMeasures(t, impl.Expr{Sub: []impl.Query{starred(), {}, starred()}}, 1, 1)
	checkMeasures(t, impl.Expr{Kids: []impl.Expr{chain(2)}, Sub: []impl.Query{{}}}, 3, 3)
	// The kind and the other fields do not matter.
	checkMeasures(t, impl.Expr{Kind: -9, Op: 99, Not: true, Value: value(7, 7, "7"), Qual: "q", Name: "n", Kids: []impl.Expr{{}, {}}}, 2, 3)
}

func TestMeasuresOfQueries(t *testing.T) {
	checkQueryMeasures(t, impl.Query{}, 0, 0)
	checkQueryMeasures(t, starred(), 0, 0)
	checkQueryMeasures(t, impl.Query{Distinct: true, From: []impl.Source{{Table: "t", As: "a"}, {}}, Limit: 9}, 0, 0)
	for n := 1; n <= 30; n++ {
		for _, q := range queriesWith(chain(n)) {
			checkQueryMeasures(t, q, n, n)
		}
	}
	places := impl.Query{Items: items(chain(2), chain(1)), From: []impl.Source{{On: repeated(chain(1), 2)}, {}, {On: repeated(chain(2), 3)}}, Where: []impl.Expr{chain(2), chain(1)}, Order: keys(chain(1), chain(2))}
	checkQueryMeasures(t, places, 2, 17)
	for _, deepest := range []func(q *impl.Query) *impl.Expr{
		func(q *impl.Query) *impl.Expr { return &q.Items[1].Expr },
		func(q *impl.Query) *impl.Expr { return &q.From[0].On[1] },
		func(q *impl.Query) *impl.Expr { return &q.From[2].On[1] },
		func(q *impl.Query) *impl.Expr { return &q.Where[0] },
		func(q *impl.Query) *impl.Expr { return &q.Where[1] },
		func(q *impl.Query) *impl.Expr { return &q.Order[0].Expr },
		func(q *impl.Query) *impl.Expr { return &q.Order[1].Expr },
	} {
		q := copied(places)
		e := deepest(&q)
		size := 17 - impl.SizeOf(*e) + 8
		*e = chain(8)
		checkQueryMeasures(t, q, 8, size)
	}
}

func TestStarsDoNotCount(t *testing.T) {
	for n := 1; n <= 30; n++ {
		q := selecting(chain(n), chain(2))
		q.Items[0].Star = true
		checkQueryMeasures(t, q, 2, 2)
		q.Items[1].Star = true
		checkQueryMeasures(t, q, 0, 0)
		checkMeasures(t, exists(q), 1, 1)
	}
}

func TestMeasuresOfNestedQueries(t *testing.T) {
	q := starred()
	for n := range 30 {
		checkQueryMeasures(t, q, n, n)
		checkMeasures(t, exists(q), n+1, n+1)
		checkMeasures(t, inSub(true, chain(3), q), max(n, 3)+1, n+4)
		q = queriesWith(exists(q))[n%4]
	}
	checkQueryMeasures(t, full(), 5, 29)
	checkMeasures(t, exists(full()), 6, 30)
	checkQueryMeasures(t, selecting(chain(2), exists(full()), inSub(false, chain(9), full())), 10, 2+30+39)
}

func checkExprOk(t *testing.T, e impl.Expr, want bool) {
	t.Helper()
	if got := impl.ExprOk(e); got != want {
		t.Errorf("ExprOk is %v at %s", got, described(e))
	}
}

func checkQueryOk(t *testing.T, q impl.Query, want bool) {
	t.Helper()
	if got := impl.QueryOk(q); got != want {
		t.Errorf("QueryOk is %v at %s", got, described(q))
	}
}

func described(x any) string {
	s := fmt.Sprintf("%+v", x)
	return s[:min(len(s), 1000)]
}

func TestExprOkAtValidExpressions(t *testing.T) {
	for _, e := range validExprs() {
		checkExprOk(t, e, true)
		checkExprOk(t, remade(e, emptyLists), true)
		for _, q := range queriesWith(e) {
			checkQueryOk(t, q, true)
			checkExprOk(t, exists(q), true)
		}
	}
}

func TestExprOkAtOtherKinds(t *testing.T) {
	kinds := append(edgeInts(), 0, -1, -2, 10, 11, 12, 15, 100, 256+1, 256+2, 256+9, 1<<32+1, 1<<32+2, 1<<32+9, -9)
	for _, e := range validExprs() {
		for _, kind := range kinds {
			if kind < 1 || kind > 9 {
				e.Kind = kind
				checkExprOk(t, e, false)
			}
		}
	}
	checkExprOk(t, impl.Expr{}, false)
}

// TestExprOkAtTheKindsOfOthers gives the fields of each kind to each other kind.
func TestExprOkAtTheKindsOfOthers(t *testing.T) {
	for _, e := range validExprs() {
		for kind := 1; kind <= 9; kind++ {
			e.Kind = kind
			checkExprOk(t, e, okByRules(e))
		}
	}
	// A literal whose value is NULL has only a kind.
	for kind := range 12 {
		checkExprOk(t, impl.Expr{Kind: kind}, kind == impl.ExLit)
	}
}

// fillers lists, for each field, ways to set it to something.
func fillers() map[string][]func(e *impl.Expr) {
	all := map[string][]func(e *impl.Expr){
		"Not":  {func(e *impl.Expr) { e.Not = true }},
		"Kids": {func(e *impl.Expr) { e.Kids = append(e.Kids, chain(1)) }, func(e *impl.Expr) { e.Kids = append(e.Kids, impl.Expr{}) }},
		"Sub":  {func(e *impl.Expr) { e.Sub = append(e.Sub, starred()) }, func(e *impl.Expr) { e.Sub = append(e.Sub, impl.Query{}) }},
	}
	for _, op := range []int{1, -1, 2, 14, 15, 16, 17, 256, 1 << 32, math.MinInt} {
		all["Op"] = append(all["Op"], func(e *impl.Expr) { e.Op = op })
	}
	for _, v := range []impl.Value{intOf(0), intOf(1), textOf(""), textOf("a"), yes, no, value(0, 1, ""), value(0, -1, ""), value(0, 0, "a"), value(4, 0, "")} {
		all["Value"] = append(all["Value"], func(e *impl.Expr) { e.Value = v })
	}
	for _, s := range []string{"a", "\x00", " ", long(20), long(21)} {
		all["Qual"] = append(all["Qual"], func(e *impl.Expr) { e.Qual = s })
		all["Name"] = append(all["Name"], func(e *impl.Expr) { e.Name = s })
	}
	return all
}

func TestExprOkAtFieldsThatMustBeZero(t *testing.T) {
	mustBeZero := map[int]string{
		impl.ExLit:     "Op Not Qual Name Kids Sub",
		impl.ExCol:     "Op Not Value Kids Sub",
		impl.ExUn:      "Not Value Qual Name Kids Sub",
		impl.ExBin:     "Not Value Qual Name Kids Sub",
		impl.ExIs:      "Op Value Qual Name Kids Sub",
		impl.ExBetween: "Op Value Qual Name Kids Sub",
		impl.ExIn:      "Op Value Qual Name Sub",
		impl.ExInSub:   "Op Value Qual Name Kids Sub",
		impl.ExExists:  "Op Not Value Qual Name Kids Sub",
	}
	for _, valid := range validExprs() {
		for _, field := range strings.Fields(mustBeZero[valid.Kind]) {
			for _, fill := range fillers()[field] {
				e := copied(valid)
				fill(&e)
				checkExprOk(t, e, false)
			}
		}
	}
}

func TestExprOkAtEveryNumberOfParts(t *testing.T) {
	for kind := 1; kind <= 9; kind++ {
		for kids := range 13 {
			for subs := range 4 {
				e := impl.Expr{Kind: kind, Kids: repeated(chain(1), kids), Sub: repeated(starred(), subs)}
				wantSubs, want := 0, false
				switch kind {
				case impl.ExLit:
					want = kids == 0
				case impl.ExCol:
					e.Name, want = "a", kids == 0
				case impl.ExUn:
					e.Op, want = impl.OpNeg, kids == 1
				case impl.ExBin:
					e.Op, want = impl.OpMul, kids == 2
				case impl.ExIs:
					want = kids == 1
				case impl.ExBetween:
					want = kids == 3
				case impl.ExIn:
					want = kids >= 2 && kids <= 9
				case impl.ExInSub:
					wantSubs, want = 1, kids == 1
				case impl.ExExists:
					wantSubs, want = 1, kids == 0
				}
				checkExprOk(t, e, want && subs == wantSubs)
			}
		}
	}
}

func TestExprOkAtLists(t *testing.T) {
	for _, not := range []bool{false, true} {
		for n := range 40 {
			checkExprOk(t, tested(impl.ExIn, not, repeated(chain(2), n)...), n >= 2 && n <= 9)
		}
	}
}

func TestExprOkAtLiterals(t *testing.T) {
	for _, v := range invalidValues() {
		checkExprOk(t, lit(v), false)
	}
	for _, v := range validValues() {
		checkExprOk(t, lit(v), v.Num >= 0 && len(v.Text) <= 40)
	}
	for _, n := range edgeInts() {
		checkExprOk(t, lit(intOf(n)), n >= 0)
		checkExprOk(t, lit(value(3, n, "")), n == 0 || n == 1)
		checkExprOk(t, lit(value(0, n, "")), n == 0)
	}
	for size := range 300 {
		checkExprOk(t, lit(textOf(long(size))), size <= 40)
	}
	// The limit counts bytes of the value and not those of its text.
	checkExprOk(t, lit(textOf(strings.Repeat("'", 40))), true)
	checkExprOk(t, lit(textOf(strings.Repeat("é", 20))), true)
	checkExprOk(t, lit(textOf(strings.Repeat("é", 20)+"x")), false)
}

func TestExprOkAtNames(t *testing.T) {
	for size := range 60 {
		checkExprOk(t, column("", long(size)), size >= 1 && size <= 20)
		checkExprOk(t, column(long(size), "a"), size <= 20)
		checkExprOk(t, column(long(size), ""), false)
		checkExprOk(t, column(long(size), long(21)), false)
	}
	for b := range 256 {
		s := stringOfBytes(byte(b))
		checkExprOk(t, column(s, s), true)
		checkExprOk(t, column(strings.Repeat(s, 20), strings.Repeat(s, 20)), true)
		checkExprOk(t, column(s, strings.Repeat(s, 21)), false)
		checkExprOk(t, column(strings.Repeat(s, 21), s), false)
	}
}

func TestExprOkAtOperators(t *testing.T) {
	ops := append(edgeInts(), 256+1, 256+15, 256+16, 1<<32+1, 1<<32+15)
	for op := -20; op <= 40; op++ {
		ops = append(ops, op)
	}
	for _, op := range ops {
		checkExprOk(t, applied(op, chain(1)), op == 15 || op == 16)
		checkExprOk(t, applied(op, chain(1), chain(1)), op >= 1 && op <= 14)
	}
}

// invalidExprs lists expressions that break one rule each.
func invalidExprs() []impl.Expr {
	return []impl.Expr{
		{}, {Kind: 10}, lit(intOf(-1)), lit(textOf(long(41))), lit(value(0, 0, "a")), column("", ""), column(long(21), "a"), {Kind: impl.ExLit, Name: "a"},
		applied(impl.OpSub, chain(1)), applied(impl.OpNot, chain(1), chain(1)), tested(impl.ExIs, false), tested(impl.ExIn, true, chain(1)),
		{Kind: impl.ExExists, Not: true, Sub: []impl.Query{starred()}}, exists(impl.Query{}), chain(25), bush(201),
	}
}

// invalidQueries lists queries that break one rule each.
func invalidQueries() []impl.Query {
	list := []impl.Query{{}, selecting()}
	for range 5 {
		list = append(list, starred())
	}
	list[2].From = nil
	list[3].From[0].On = []impl.Expr{chain(1)}
	list[4].Limit = -2
	list[5].Items[0].As = "a"
	list[6].From[0].Table = ""
	return append(list, queriesWith(lit(intOf(-1)))...)
}

func TestExprOkAtPartsThatAreNot(t *testing.T) {
	for _, valid := range validExprs() {
		for _, bad := range invalidExprs() {
			for i := range valid.Kids {
				e := copied(valid)
				e.Kids[i] = bad
				checkExprOk(t, e, false)
			}
		}
		for _, bad := range invalidQueries() {
			for i := range valid.Sub {
				e := copied(valid)
				e.Sub[i] = bad
				checkExprOk(t, e, false)
			}
		}
	}
}

func TestExprOkAtDepths(t *testing.T) {
	for n := 1; n <= 60; n++ {
		checkExprOk(t, chain(n), n <= 24)
		checkExprOk(t, tested(impl.ExBetween, true, chain(1), chain(n), chain(2)), n <= 23)
		checkExprOk(t, inSub(false, chain(n), starred()), n <= 23)
		for _, q := range queriesWith(chain(n)) {
			checkQueryOk(t, q, n <= 24)
			checkExprOk(t, exists(q), n <= 23)
			checkExprOk(t, inSub(true, chain(2), q), n <= 23)
			checkExprOk(t, applied(impl.OpNot, exists(q)), n <= 22)
			checkQueryOk(t, joinedOn(exists(q)), n <= 23)
		}
	}
	q := starred()
	for n := range 60 {
		checkQueryOk(t, q, n <= 24)
		checkExprOk(t, exists(q), n <= 23)
		q = queriesWith(exists(q))[n%4]
	}
}

func TestExprOkAtSizes(t *testing.T) {
	for n := 1; n <= 400; n++ {
		checkExprOk(t, bush(n), n <= 200)
		checkExprOk(t, tested(impl.ExBetween, false, chain(1), bush(n), chain(2)), n <= 196)
		for _, q := range queriesWith(bush(n)) {
			checkQueryOk(t, q, n <= 200)
			checkExprOk(t, exists(q), n <= 199)
			checkExprOk(t, inSub(true, bush(50), q), n <= 149)
			checkQueryOk(t, joinedOn(exists(q)), n <= 199)
		}
		// The sizes of all places of a query are added.
		q := joinedOn(bush(30))
		q.Items = items(bush(20), bush(n))
		q.Where, q.Order = []impl.Expr{bush(40)}, keys(bush(10), bush(50))
		checkQueryOk(t, q, n <= 50)
		checkExprOk(t, exists(q), n <= 49)
	}
	wide := repeated(chain(22), 9)
	checkExprOk(t, tested(impl.ExIn, false, wide...), true)
	wide[8] = chain(23)
	checkExprOk(t, tested(impl.ExIn, false, wide...), true)
	wide[7] = chain(23)
	checkExprOk(t, tested(impl.ExIn, false, wide...), false)
}

func TestQueryOkAtValidQueries(t *testing.T) {
	for _, q := range []impl.Query{starred(), full(), selecting(chain(1)), joinedOn(), joinedOn(chain(1))} {
		checkQueryOk(t, q, true)
		checkQueryOk(t, remade(q, emptyLists), true)
		q.Distinct = !q.Distinct
		checkQueryOk(t, q, true)
	}
	checkQueryOk(t, impl.Query{}, false)
}

func TestQueryOkAtItems(t *testing.T) {
	for n := range 40 {
		checkQueryOk(t, selecting(repeated(chain(1), n)...), n >= 1 && n <= 12)
		q := starred()
		q.Items = repeated(impl.Item{Star: true, Qual: "t"}, n)
		checkQueryOk(t, q, n >= 1 && n <= 12)
	}
	for size := range 60 {
		name := long(size)
		checkItem(t, impl.Item{Expr: chain(1), As: name}, size <= 20)
		checkItem(t, impl.Item{Expr: chain(1), Qual: name}, size == 0)
		checkItem(t, impl.Item{Star: true, Qual: name}, size <= 20)
		checkItem(t, impl.Item{Star: true, As: name}, size == 0)
		checkItem(t, impl.Item{Star: true, Qual: "t", As: name}, size == 0)
	}
	checkItem(t, impl.Item{}, false)
	checkItem(t, impl.Item{As: "a"}, false)
	checkItem(t, impl.Item{Qual: "t"}, false)
	checkItem(t, impl.Item{Expr: chain(1), As: "select"}, true)
	checkItem(t, impl.Item{Star: true, Qual: "\x00\""}, true)
}

// checkItem checks QueryOk at queries that are valid but for x.
func checkItem(t *testing.T, x impl.Item, want bool) {
	t.Helper()
	for i := range 12 {
		q := selecting(repeated(chain(2), 12)...)
		q.Items[i] = x
		checkQueryOk(t, q, want)
		checkExprOk(t, exists(q), want)
	}
	q := starred()
	q.Items[0] = x
	checkQueryOk(t, q, want)
}

func TestQueryOkAtStarsWithAnExpression(t *testing.T) {
	for _, qual := range []string{"", "t"} {
		visitMutants(impl.Expr{}, func(e impl.Expr) { checkItem(t, impl.Item{Star: true, Qual: qual, Expr: e}, false) })
		for _, e := range validExprs() {
			checkItem(t, impl.Item{Star: true, Qual: qual, Expr: e}, false)
		}
		for _, zero := range []impl.Expr{{}, {Kids: []impl.Expr{}}, {Sub: []impl.Query{}}, remade(impl.Expr{}, emptyLists), remade(impl.Expr{}, roomyLists)} {
			checkItem(t, impl.Item{Star: true, Qual: qual, Expr: zero}, true)
		}
	}
}

func TestQueryOkAtSources(t *testing.T) {
	for n := range 20 {
		q := starred()
		q.From = repeated(impl.Source{Table: "t", As: "a"}, n)
		checkQueryOk(t, q, n >= 1 && n <= 3)
	}
	for i := range 3 {
		q := starred()
		q.From = repeated(impl.Source{Table: "t"}, 3)
		for n := range 6 {
			q.From[i].On = repeated(chain(2), n)
			checkQueryOk(t, q, n == 0 || n == 1 && i > 0)
			checkExprOk(t, exists(q), n == 0 || n == 1 && i > 0)
		}
		q.From[i].On = []impl.Expr{}
		checkQueryOk(t, q, true)
		for size := range 60 {
			q.From[i] = impl.Source{Table: long(size)}
			checkQueryOk(t, q, size >= 1 && size <= 20)
			q.From[i] = impl.Source{Table: "t", As: long(size)}
			checkQueryOk(t, q, size <= 20)
			checkExprOk(t, exists(q), size <= 20)
		}
	}
	// Several sources may have the same name.
	q := joinedOn(chain(1))
	q.From[1].Table = q.From[0].Table
	checkQueryOk(t, q, true)
}

func TestQueryOkAtWhereAndOrder(t *testing.T) {
	for n := range 40 {
		where, order := starred(), starred()
		where.Where = repeated(chain(2), n)
		checkQueryOk(t, where, n <= 1)
		checkExprOk(t, exists(where), n <= 1)
		order.Order = repeated(impl.SortKey{Expr: chain(2), Desc: n%2 == 0}, n)
		checkQueryOk(t, order, n <= 12)
		checkExprOk(t, exists(order), n <= 12)
	}
}

func TestQueryOkAtLimits(t *testing.T) {
	for _, n := range append(edgeInts(), -3, -2, -1, 0, 1, 2, 1<<32-1, -1<<32-1, math.MinInt, math.MaxInt) {
		q := full()
		q.Limit = n
		checkQueryOk(t, q, n >= -1)
		checkExprOk(t, exists(q), n >= -1)
	}
}

func TestQueryOkAtExpressionsThatAreNot(t *testing.T) {
	for _, bad := range invalidExprs() {
		for _, q := range queriesWith(bad) {
			checkQueryOk(t, q, false)
			checkExprOk(t, exists(q), false)
		}
		for i := range 12 {
			q := selecting(repeated(chain(1), 12)...)
			q.Items[i].Expr = bad
			checkQueryOk(t, q, false)
			q = starred()
			q.Order = keys(repeated(chain(1), 12)...)
			q.Order[i].Expr = bad
			checkQueryOk(t, q, false)
		}
		q := joinedOn(chain(1))
		q.From = append(q.From, impl.Source{Table: "t", On: []impl.Expr{bad}})
		checkQueryOk(t, q, false)
	}
}

// checkSame checks SameExpr or SameQuery, which is same, in both directions.
func checkSame[T any](t *testing.T, same func(a, b T) bool, a, b T, want bool) {
	t.Helper()
	if same(a, b) != want || same(b, a) != want {
		t.Errorf("not %v in both directions at %s and %s", want, described(a), described(b))
	}
}

func checkSameForms[T any](t *testing.T, same func(a, b T) bool, x T) {
	t.Helper()
	forms := []T{x, copied(x), remade(x, emptyLists), remade(x, roomyLists)}
	for _, a := range forms {
		for _, b := range forms {
			checkSame(t, same, a, b, true)
		}
	}
}

func TestSameTreesAtEqualTrees(t *testing.T) {
	for _, e := range append(append(validExprs(), invalidExprs()...), impl.Expr{}) {
		checkSameForms(t, impl.SameExpr, e)
		for _, q := range queriesWith(e) {
			checkSameForms(t, impl.SameQuery, q)
		}
	}
	for _, q := range append(invalidQueries(), full(), starred(), impl.Query{}) {
		checkSameForms(t, impl.SameQuery, q)
		checkSameForms(t, impl.SameExpr, exists(q))
	}
	checkSame(t, impl.SameQuery, full(), full(), true)
}

func TestSameTreesAtMutants(t *testing.T) {
	trees := []impl.Expr{{}, exists(full()), {Kids: []impl.Expr{chain(2), chain(1)}, Sub: []impl.Query{full(), starred()}}}
	for _, e := range trees {
		visitMutants(e, func(other impl.Expr) {
			checkSame(t, impl.SameExpr, e, other, false)
			checkSame(t, impl.SameExpr, other, other, true)
		})
	}
	starAndMore := full()
	starAndMore.Items[0].Expr = applied(impl.OpAdd, chain(2), exists(full()))
	starAndMore.From[0].On = []impl.Expr{chain(1), chain(3)}
	for _, q := range []impl.Query{{}, starred(), full(), starAndMore} {
		visitMutants(q, func(other impl.Query) {
			checkSame(t, impl.SameQuery, q, other, false)
			checkSame(t, impl.SameExpr, exists(q), exists(other), false)
			checkSame(t, impl.SameQuery, other, other, true)
		})
	}
}

// TestSameTreesAtMovedParts has trees with the same expressions in the same order, but in different places.
func TestSameTreesAtMovedParts(t *testing.T) {
	var list []impl.Query
	for _, e := range []impl.Expr{chain(1), chain(2), {}} {
		list = append(list, queriesWith(e)...)
		list = append(list, joinedOn(e, e), impl.Query{Where: []impl.Expr{e}}, impl.Query{Where: []impl.Expr{e, e}}, impl.Query{Order: keys(e)}, impl.Query{Order: keys(e, e)},
			impl.Query{Where: []impl.Expr{e}, Order: keys(e)}, impl.Query{Items: items(e)}, impl.Query{Items: items(e, e)},
			impl.Query{From: []impl.Source{{On: []impl.Expr{e, e}}}}, impl.Query{From: []impl.Source{{On: []impl.Expr{e}}, {On: []impl.Expr{e}}}},
			impl.Query{From: []impl.Source{{On: []impl.Expr{e, e}}, {}}}, impl.Query{From: []impl.Source{{}, {On: []impl.Expr{e, e}}}})
	}
	for i, a := range list {
		for j, b := range list {
			checkSame(t, impl.SameQuery, a, b, i == j)
			checkSame(t, impl.SameExpr, exists(a), exists(b), i == j)
		}
		checkSame(t, impl.SameExpr, impl.Expr{Kids: []impl.Expr{chain(1)}}, impl.Expr{Sub: []impl.Query{a}}, false)
		checkSame(t, impl.SameExpr, impl.Expr{Sub: []impl.Query{a, {}}}, impl.Expr{Sub: []impl.Query{{}, a}}, false)
		checkSame(t, impl.SameExpr, impl.Expr{Kids: []impl.Expr{exists(a), chain(1)}}, impl.Expr{Kids: []impl.Expr{chain(1), exists(a)}}, false)
	}
	deepLeft := impl.Expr{Kids: []impl.Expr{{Kids: []impl.Expr{{}, {}}}, {}}}
	deepRight := impl.Expr{Kids: []impl.Expr{{}, {Kids: []impl.Expr{{}, {}}}}}
	checkSame(t, impl.SameExpr, deepLeft, deepRight, false)
}

// The rules of the document, sentence by sentence.

func expressionsOf(q impl.Query) []impl.Expr {
	var list []impl.Expr
	for _, x := range q.Items {
		if !x.Star {
			list = append(list, x.Expr)
		}
	}
	for _, x := range q.From {
		list = append(list, x.On...)
	}
	list = append(list, q.Where...)
	for _, k := range q.Order {
		list = append(list, k.Expr)
	}
	return list
}

func depthByRules(e impl.Expr) int {
	depth := 0
	for _, kid := range e.Kids {
		depth = max(depth, depthByRules(kid))
	}
	for _, q := range e.Sub {
		depth = max(depth, queryDepthByRules(q))
	}
	return depth + 1
}

func queryDepthByRules(q impl.Query) int {
	depth := 0
	for _, e := range expressionsOf(q) {
		depth = max(depth, depthByRules(e))
	}
	return depth
}

func sizeByRules(e impl.Expr) int {
	size := 1
	for _, kid := range e.Kids {
		size += sizeByRules(kid)
	}
	for _, q := range e.Sub {
		size += querySizeByRules(q)
	}
	return size
}

func querySizeByRules(q impl.Query) int {
	size := 0
	for _, e := range expressionsOf(q) {
		size += sizeByRules(e)
	}
	return size
}

func nameOrEmpty(s string) bool { return s == "" || impl.NameOk(s) }

func okByRules(e impl.Expr) bool {
	// rest is what remains of e without the fields that its kind uses.
	rest := e
	rest.Kind, rest.Kids, rest.Sub = 0, nil, nil
	least, most, subs, ok := 0, 0, 0, true
	switch e.Kind {
	case impl.ExLit:
		rest.Value = null
		ok = impl.ValueOk(e.Value) && !(e.Value.Kind == 1 && e.Value.Num < 0) && !(e.Value.Kind == 2 && len(e.Value.Text) > 40)
	case impl.ExCol:
		rest.Name, rest.Qual = "", ""
		ok = impl.NameOk(e.Name) && nameOrEmpty(e.Qual)
	case impl.ExUn:
		rest.Op, least, most = 0, 1, 1
		ok = e.Op == 15 || e.Op == 16
	case impl.ExBin:
		rest.Op, least, most = 0, 2, 2
		ok = 1 <= e.Op && e.Op <= 14
	case impl.ExIs:
		rest.Not, least, most = false, 1, 1
	case impl.ExBetween:
		rest.Not, least, most = false, 3, 3
	case impl.ExIn:
		rest.Not, least, most = false, 2, 9
	case impl.ExInSub:
		rest.Not, least, most, subs = false, 1, 1, 1
	case impl.ExExists:
		subs = 1
	default:
		return false
	}
	ok = ok && sameByRules(rest, impl.Expr{}) && least <= len(e.Kids) && len(e.Kids) <= most && len(e.Sub) == subs
	return ok && depthByRules(e) <= 24 && sizeByRules(e) <= 200 && allOf(e.Kids, okByRules) && allOf(e.Sub, queryOkByRules)
}

func allOf[T any](list []T, ok func(T) bool) bool {
	return !slices.ContainsFunc(list, func(x T) bool { return !ok(x) })
}

func queryOkByRules(q impl.Query) bool {
	ok := queryDepthByRules(q) <= 24 && querySizeByRules(q) <= 200 && allOf(expressionsOf(q), okByRules)
	ok = ok && 1 <= len(q.Items) && len(q.Items) <= 12 && 1 <= len(q.From) && len(q.From) <= 3
	ok = ok && len(q.Where) <= 1 && len(q.Order) <= 12 && q.Limit >= -1
	for _, x := range q.Items {
		if x.Star {
			ok = ok && nameOrEmpty(x.Qual) && sameByRules(x, impl.Item{Star: true, Qual: x.Qual})
		} else {
			ok = ok && x.Qual == "" && nameOrEmpty(x.As)
		}
	}
	for i, x := range q.From {
		ok = ok && impl.NameOk(x.Table) && nameOrEmpty(x.As) && len(x.On) <= min(i, 1)
	}
	return ok
}

// checkTreeByRules compares all functions of one expression, and of queries with it, with the rules.
func checkTreeByRules(t *testing.T, e impl.Expr) {
	t.Helper()
	checkExprOk(t, e, okByRules(e))
	checkMeasures(t, e, depthByRules(e), sizeByRules(e))
	for _, q := range e.Sub {
		checkQueryOk(t, q, queryOkByRules(q))
		checkQueryMeasures(t, q, queryDepthByRules(q), querySizeByRules(q))
	}
}

func TestMutantsByRules(t *testing.T) {
	ok := 0
	for _, e := range append(validExprs(), chain(24)) {
		visitMutants(e, func(other impl.Expr) {
			checkTreeByRules(t, other)
			if impl.ExprOk(other) {
				ok++
			}
		})
	}
	if ok < 1000 {
		t.Errorf("only %d mutants are valid", ok)
	}
}

// randomExpr returns an expression that is valid unless it is too deep or too large.
func randomExpr(random *rand.Rand, depth int) impl.Expr {
	kind := 1 + random.Intn(9)
	if depth <= 1 {
		kind = 1 + random.Intn(2)
	}
	kids := map[int]int{impl.ExUn: 1, impl.ExBin: 2, impl.ExIs: 1, impl.ExBetween: 3, impl.ExIn: 2 + random.Intn(8), impl.ExInSub: 1}[kind]
	e := impl.Expr{Kind: kind}
	for range kids {
		e.Kids = append(e.Kids, randomExpr(random, depth-1-random.Intn(3)))
	}
	switch kind {
	case impl.ExLit:
		e.Value = []impl.Value{null, yes, no, intOf(random.Intn(9)), textOf(long(random.Intn(41)))}[random.Intn(5)]
	case impl.ExCol:
		e.Name, e.Qual = long(1+random.Intn(20)), long(random.Intn(21))
	case impl.ExUn:
		e.Op = 15 + random.Intn(2)
	case impl.ExBin:
		e.Op = 1 + random.Intn(14)
	case impl.ExExists:
		e.Sub = []impl.Query{randomQuery(random, depth-1)}
	case impl.ExInSub:
		e.Sub = []impl.Query{randomQuery(random, depth-1)}
		fallthrough
	default:
		e.Not = random.Intn(2) == 0
	}
	return e
}

func randomQuery(random *rand.Rand, depth int) impl.Query {
	part := func() impl.Expr { return randomExpr(random, depth-random.Intn(3)) }
	q := impl.Query{Distinct: random.Intn(2) == 0, Limit: random.Intn(5) - 1}
	for range 1 + random.Intn(3) {
		if random.Intn(3) == 0 {
			q.Items = append(q.Items, impl.Item{Star: true, Qual: long(random.Intn(3))})
		} else {
			q.Items = append(q.Items, impl.Item{Expr: part(), As: long(random.Intn(3))})
		}
	}
	for i := range 1 + random.Intn(3) {
		x := impl.Source{Table: long(1 + random.Intn(3)), As: long(random.Intn(3))}
		if i > 0 && random.Intn(2) == 0 {
			x.On = []impl.Expr{part()}
		}
		q.From = append(q.From, x)
	}
	if random.Intn(2) == 0 {
		q.Where = []impl.Expr{part()}
	}
	for range random.Intn(3) {
		q.Order = append(q.Order, impl.SortKey{Expr: part(), Desc: random.Intn(2) == 0})
	}
	return q
}

func TestRandomTreesByRules(t *testing.T) {
	random := rand.New(rand.NewSource(77))
	oks := map[bool]int{}
	for i := range 1200 {
		e, other := randomExpr(random, 1+i%12), randomExpr(random, 1+i%3)
		checkTreeByRules(t, e)
		oks[impl.ExprOk(e)]++
		checkSameForms(t, impl.SameExpr, e)
		checkSame(t, impl.SameExpr, e, other, sameByRules(e, other))
	}
	if oks[true] < 60 || oks[false] < 60 {
		t.Errorf("%d random trees are valid and %d are not", oks[true], oks[false])
	}
}

// checkParts checks that the parts of a valid expression are valid and that it is bounded.
func checkParts(t *testing.T, e impl.Expr) {
	t.Helper()
	if impl.DepthOf(e) > 24 || impl.SizeOf(e) > 200 || len(e.Kids) > 9 || len(e.Sub) > 1 {
		t.Errorf("a valid expression of the depth %d and the size %d has %d Kids", impl.DepthOf(e), impl.SizeOf(e), len(e.Kids))
	}
	for _, kid := range e.Kids {
		checkExprOk(t, kid, true)
		checkParts(t, kid)
	}
	for _, q := range e.Sub {
		checkQueryOk(t, q, true)
		for _, part := range expressionsOf(q) {
			checkExprOk(t, part, true)
			checkParts(t, part)
		}
	}
}

func TestPartsOfValidExpressionsAreValid(t *testing.T) {
	random := rand.New(rand.NewSource(78))
	list := append(validExprs(), chain(24), bush(200), exists(full()))
	for i := range 2000 {
		list = append(list, randomExpr(random, 1+i%7))
	}
	for _, e := range list {
		if impl.ExprOk(e) {
			checkParts(t, e)
		}
	}
}

// callTrees calls every function of trees with e and with its Sub.
func callTrees(e impl.Expr) {
	impl.ExprOk(e)
	impl.DepthOf(e)
	impl.SizeOf(e)
	impl.SameExpr(e, e)
	impl.SameExpr(e, impl.Expr{})
	for _, q := range e.Sub {
		impl.QueryOk(q)
		impl.QueryDepth(q)
		impl.QuerySize(q)
		impl.SameQuery(q, q)
		impl.SameQuery(q, impl.Query{})
	}
}

func TestTreesAreNotChanged(t *testing.T) {
	random := rand.New(rand.NewSource(79))
	list := append(validExprs(), invalidExprs()...)
	for _, q := range append(invalidQueries(), full()) {
		list = append(list, exists(q), impl.Expr{Kids: []impl.Expr{exists(q), chain(2)}, Sub: []impl.Query{q, full()}})
	}
	for i := range 300 {
		list = append(list, randomExpr(random, 1+i%7))
	}
	for _, e := range list {
		// With unused capacity in every slice, an append to one of them is seen too.
		roomy := remade(e, roomyLists)
		before := remade(roomy, wholeLists)
		callTrees(roomy)
		if !reflect.DeepEqual(remade(roomy, wholeLists), before) {
			t.Errorf("a call changes %s", described(e))
		}
	}
}

// nested returns an expression of the given depth, with the leaf in a Kid of a Kid and so on, or in all places by turns.
func nested(depth int, leaf impl.Expr, byTurns bool) impl.Expr {
	e := leaf
	for i := range depth - 1 {
		if place := i % 5; byTurns && place < 4 {
			e = exists(queriesWith(e)[place])
		} else {
			e = applied(impl.OpNot, e)
		}
	}
	return e
}

func checkVeryDeep(t *testing.T, depth int, byTurns bool) {
	t.Helper()
	a, b, c := nested(depth, chain(1), byTurns), nested(depth, chain(1), byTurns), nested(depth, lit(null), byTurns)
	checkMeasures(t, a, depth, depth)
	if impl.ExprOk(a) || impl.QueryOk(selecting(a)) {
		t.Error("a tree far too deep is valid")
	}
	if !impl.SameExpr(a, b) || !impl.SameQuery(selecting(a), selecting(b)) {
		t.Error("two very deep trees are not the same")
	}
	if impl.SameExpr(a, c) || impl.SameQuery(selecting(c), selecting(a)) {
		t.Error("two very deep trees that differ in their leaf are the same")
	}
}

// TestVeryDeepTrees has a tree for which the stack would not suffice if a function called itself for each part.
func TestVeryDeepTrees(t *testing.T) {
	checkVeryDeep(t, 1000001, false)
	checkVeryDeep(t, 50001, true)
}

func TestVeryLargeTrees(t *testing.T) {
	e := chain(1)
	for range 17 {
		e = tested(impl.ExIs, false, e, e)
	}
	checkMeasures(t, e, 18, 1<<18-1)
	checkExprOk(t, e, false)
	wide := tested(impl.ExIn, false, repeated(chain(1), 300000)...)
	checkMeasures(t, wide, 2, 300001)
	checkExprOk(t, wide, false)
	checkQueryOk(t, selecting(repeated(chain(1), 300000)...), false)
	// Validity is decided before a tree of 2 to the power of 60 expressions has been visited.
	huge := chain(1)
	for range 60 {
		huge = applied(impl.OpAdd, huge, huge)
	}
	checkHuge(t, huge)
	huge = chain(1)
	for range 20 {
		huge = tested(impl.ExIn, true, repeated(huge, 9)...)
	}
	checkHuge(t, huge)
}

func checkHuge(t *testing.T, huge impl.Expr) {
	t.Helper()
	if impl.ExprOk(huge) || impl.QueryOk(selecting(huge)) || impl.QueryOk(joinedOn(huge)) || impl.ExprOk(exists(selecting(huge))) {
		t.Error("a huge tree is valid")
	}
}
