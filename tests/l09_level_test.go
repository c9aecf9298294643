package tests

import (
	"math"
	"math/rand"
	"reflect"
	"runtime/debug"
	"slices"
	"strconv"
	"testing"

	"loop.example/g00495/impl"
)

// binaryLevels and unaryLevels are the document's table, by operator. Every other operator has level 0.
var (
	binaryLevels = map[int]int{1: 1, 2: 2, 3: 4, 4: 4, 5: 4, 6: 4, 7: 4, 8: 4, 9: 5, 10: 6, 11: 6, 12: 7, 13: 7, 14: 7}
	unaryLevels  = map[int]int{15: 3, 16: 8}
)

// The rules of the document, sentence by sentence.

func levelByRules(e impl.Expr) int {
	switch e.Kind {
	case 4:
		return binaryLevels[e.Op]
	case 3:
		return unaryLevels[e.Op]
	case 5, 6, 7, 8:
		return 4
	case 1, 2, 9:
		return 9
	}
	return 0
}

func needsByRules(e impl.Expr, k int) int {
	level := levelByRules(e)
	switch {
	case k < 0 || k >= len(e.Kids) || level == 0 || level == 9:
		return 0
	case e.Kind == 4 && level == 4:
		return 5
	case e.Kind == 4 && k == 0:
		return level
	case e.Kind == 4:
		return level + 1
	case e.Kind == 3:
		return level
	case e.Kind == 7 && k > 0:
		return 1
	}
	return 5
}

func wrappedByRules(e impl.Expr, k int) bool {
	return 0 <= k && k < len(e.Kids) && levelByRules(e.Kids[k]) < needsByRules(e, k)
}

func wrapsByRules(e impl.Expr) int {
	count := 0
	for k, kid := range e.Kids {
		if wrappedByRules(e, k) {
			count++
		}
		count += wrapsByRules(kid)
	}
	for _, q := range e.Sub {
		count += wrapsInByRules(q)
	}
	return count
}

func wrapsInByRules(q impl.Query) int {
	count := 0
	for _, e := range expressionsOf(q) {
		count += wrapsByRules(e)
	}
	return count
}

func checkLevel(t *testing.T, e impl.Expr, want int) {
	t.Helper()
	if got := impl.LevelOf(e); got != want {
		t.Errorf("LevelOf is %d, want %d at %s", got, want, described(e))
	}
}

func checkNeeds(t *testing.T, e impl.Expr, k, want int) {
	t.Helper()
	if got := impl.Needs(e, k); got != want {
		t.Errorf("Needs is %d, want %d at Kid %d of %s", got, want, k, described(e))
	}
}

func checkWrapped(t *testing.T, e impl.Expr, k int, want bool) {
	t.Helper()
	if got := impl.Wrapped(e, k); got != want {
		t.Errorf("Wrapped is %v at Kid %d of %s", got, k, described(e))
	}
}

func checkWraps(t *testing.T, e impl.Expr, want int) {
	t.Helper()
	if got := impl.Wraps(e); got != want {
		t.Errorf("Wraps is %d, want %d at %s", got, want, described(e))
	}
}

func checkWrapsIn(t *testing.T, q impl.Query, want int) {
	t.Helper()
	if got := impl.WrapsIn(q); got != want {
		t.Errorf("WrapsIn is %d, want %d at %s", got, want, described(q))
	}
}

// strangeKinds lists integers that are no kind of an expression.
func strangeKinds() []int {
	list := append(edgeInts(), 0, -1, -2, -9, 10, 11, 12, 256+1, 256+4, 1<<32+4, -1<<32+9)
	return slices.DeleteFunc(list, func(n int) bool { return 1 <= n && n <= 9 })
}

// allOps lists all operators and many integers that are none.
func allOps() []int {
	list := append(edgeInts(), 256+1, 256+15, 256+16, 1<<32+1, 1<<32+15)
	for op := -20; op <= 40; op++ {
		list = append(list, op)
	}
	return list
}

// placesAround lists the numbers of n Kids and many numbers of none.
func placesAround(n int) []int {
	list := append(edgeInts(), -1, n, n+1, -n, 1<<32, 1<<32+1, -1<<32, math.MinInt+1, math.MaxInt-1)
	for k := range n {
		list = append(list, k, k-math.MaxInt-1)
	}
	return list
}

func TestLevelOfKinds(t *testing.T) {
	a := column("", "a")
	for _, not := range []bool{false, true} {
		checkLevel(t, tested(impl.ExIs, not, a), 4)
		checkLevel(t, tested(impl.ExBetween, not, a, a, a), 4)
		checkLevel(t, tested(impl.ExIn, not, a, a), 4)
		checkLevel(t, tested(impl.ExIn, not, repeated(a, 9)...), 4)
		checkLevel(t, inSub(not, a, starred()), 4)
	}
	for _, v := range append(validValues(), invalidValues()...) {
		checkLevel(t, lit(v), 9)
	}
	checkLevel(t, a, 9)
	checkLevel(t, column("t", "a"), 9)
	checkLevel(t, exists(full()), 9)
	checkLevel(t, impl.Expr{}, 0)
}

// TestLevelOfKindsAlone has expressions of every kind that are not valid, since they lack their parts.
func TestLevelOfKindsAlone(t *testing.T) {
	want := []int{0, 9, 9, 0, 0, 4, 4, 4, 4, 9, 0}
	for kind, level := range want {
		checkLevel(t, impl.Expr{Kind: kind}, level)
	}
	for _, kind := range strangeKinds() {
		checkLevel(t, impl.Expr{Kind: kind}, 0)
		for op := range 20 {
			checkLevel(t, impl.Expr{Kind: kind, Op: op, Kids: repeated(chain(1), 2)}, 0)
		}
	}
}

func TestLevelOfOperators(t *testing.T) {
	want := []int{1, 2, 4, 4, 4, 4, 4, 4, 5, 6, 6, 7, 7, 7}
	for i, level := range want {
		checkLevel(t, applied(i+1, chain(1), chain(1)), level)
		checkLevel(t, applied(i+1, chain(1)), 0)
	}
	checkLevel(t, applied(impl.OpNot, chain(1)), 3)
	checkLevel(t, applied(impl.OpNeg, chain(1)), 8)
	checkLevel(t, applied(impl.OpNot, chain(1), chain(1)), 0)
	checkLevel(t, applied(impl.OpNeg, chain(1), chain(1)), 0)
	for _, op := range allOps() {
		checkLevel(t, impl.Expr{Kind: impl.ExBin, Op: op}, binaryLevels[op])
		checkLevel(t, impl.Expr{Kind: impl.ExUn, Op: op}, unaryLevels[op])
	}
}

func TestLevelOfOtherKindsWithAnOperator(t *testing.T) {
	want := map[int]int{1: 9, 2: 9, 5: 4, 6: 4, 7: 4, 8: 4, 9: 9}
	for kind, level := range want {
		for _, op := range allOps() {
			checkLevel(t, impl.Expr{Kind: kind, Op: op}, level)
			checkLevel(t, impl.Expr{Kind: kind, Op: op, Kids: repeated(chain(1), 2)}, level)
		}
	}
}

// TestLevelDependsOnKindAndOperator has expressions that differ in other fields only.
func TestLevelDependsOnKindAndOperator(t *testing.T) {
	for _, e := range append(validExprs(), invalidExprs()...) {
		visitMutants(e, func(other impl.Expr) { checkLevel(t, other, levelByRules(other)) })
		for n := range 14 {
			other := impl.Expr{Kind: e.Kind, Op: e.Op, Not: true, Value: yes, Qual: "q", Name: "n", Kids: repeated(chain(2), n), Sub: repeated(full(), n%3)}
			checkLevel(t, other, impl.LevelOf(e))
		}
	}
}

// TestNeedsOfOperands has the document's table for valid expressions.
func TestNeedsOfOperands(t *testing.T) {
	a := column("", "a")
	rows := []struct {
		e    impl.Expr
		want []int
	}{
		{lit(null), nil}, {a, nil}, {exists(full()), nil},
		{applied(impl.OpNot, a), []int{3}}, {applied(impl.OpNeg, a), []int{8}},
		{applied(impl.OpOr, a, a), []int{1, 2}}, {applied(impl.OpAnd, a, a), []int{2, 3}},
		{applied(impl.OpEq, a, a), []int{5, 5}}, {applied(impl.OpNe, a, a), []int{5, 5}},
		{applied(impl.OpLt, a, a), []int{5, 5}}, {applied(impl.OpLe, a, a), []int{5, 5}},
		{applied(impl.OpGt, a, a), []int{5, 5}}, {applied(impl.OpGe, a, a), []int{5, 5}},
		{applied(impl.OpCat, a, a), []int{5, 6}},
		{applied(impl.OpAdd, a, a), []int{6, 7}}, {applied(impl.OpSub, a, a), []int{6, 7}},
		{applied(impl.OpMul, a, a), []int{7, 8}}, {applied(impl.OpDiv, a, a), []int{7, 8}}, {applied(impl.OpRem, a, a), []int{7, 8}},
		{tested(impl.ExIs, false, a), []int{5}}, {tested(impl.ExIs, true, a), []int{5}},
		{tested(impl.ExBetween, false, a, a, a), []int{5, 5, 5}}, {tested(impl.ExBetween, true, a, a, a), []int{5, 5, 5}},
		{tested(impl.ExIn, false, a, a), []int{5, 1}}, {tested(impl.ExIn, true, repeated(a, 9)...), []int{5, 1, 1, 1, 1, 1, 1, 1, 1}},
		{inSub(false, a, starred()), []int{5}}, {inSub(true, a, full()), []int{5}},
	}
	for _, row := range rows {
		if !impl.ExprOk(row.e) || len(row.e.Kids) != len(row.want) {
			t.Errorf("the row is wrong at %s", described(row.e))
		}
		for k, want := range row.want {
			checkNeeds(t, row.e, k, want)
		}
		for _, k := range placesAround(len(row.want)) {
			if k < 0 || k >= len(row.want) {
				checkNeeds(t, row.e, k, 0)
				checkWrapped(t, row.e, k, false)
			}
		}
	}
}

// TestNeedsAtEveryNumberOfKids has expressions with fewer and with more Kids than those of their kind have when they are valid.
func TestNeedsAtEveryNumberOfKids(t *testing.T) {
	for kind := -1; kind <= 11; kind++ {
		for op := -1; op <= 18; op++ {
			for n := range 14 {
				e := impl.Expr{Kind: kind, Op: op, Kids: repeated(chain(1), n)}
				for _, k := range placesAround(n) {
					checkNeeds(t, e, k, needsByRules(e, k))
				}
			}
		}
	}
}

func TestNeedsOfTooFewOrTooManyKids(t *testing.T) {
	a := column("", "a")
	rows := []struct {
		e    impl.Expr
		want []int
	}{
		{impl.Expr{Kind: impl.ExBin, Op: impl.OpSub}, []int{0, 0, 0}},
		{impl.Expr{Kind: impl.ExBin, Op: impl.OpSub, Kids: []impl.Expr{a}}, []int{6, 0, 0}},
		// The document has no rule of its own for a third operand. It is taken for a right one.
		{impl.Expr{Kind: impl.ExBin, Op: impl.OpSub, Kids: []impl.Expr{a, a, a}}, []int{6, 7, 7, 0}},
		{impl.Expr{Kind: impl.ExBin, Op: impl.OpOr, Kids: []impl.Expr{a, a, a, a}}, []int{1, 2, 2, 2, 0}},
		{impl.Expr{Kind: impl.ExBin, Op: impl.OpLt, Kids: []impl.Expr{a}}, []int{5, 0, 0}},
		{impl.Expr{Kind: impl.ExBin, Op: impl.OpLt, Kids: []impl.Expr{a, a, a}}, []int{5, 5, 5, 0}},
		{impl.Expr{Kind: impl.ExUn, Op: impl.OpNot}, []int{0, 0}},
		{impl.Expr{Kind: impl.ExUn, Op: impl.OpNot, Kids: []impl.Expr{a, a}}, []int{3, 3, 0}},
		{impl.Expr{Kind: impl.ExUn, Op: impl.OpNeg, Kids: []impl.Expr{a, a}}, []int{8, 8, 0}},
		{tested(impl.ExIs, false), []int{0, 0}},
		{tested(impl.ExIs, false, a, a), []int{5, 5, 0}},
		{tested(impl.ExBetween, false, a, a), []int{5, 5, 0, 0}},
		{tested(impl.ExBetween, true, a, a, a, a), []int{5, 5, 5, 5, 0}},
		{tested(impl.ExIn, false), []int{0, 0, 0}},
		{tested(impl.ExIn, false, a), []int{5, 0, 0}},
		{tested(impl.ExIn, false, repeated(a, 10)...), []int{5, 1, 1, 1, 1, 1, 1, 1, 1, 1, 0}},
		{tested(impl.ExInSub, false, a, a), []int{5, 5, 0}},
		{impl.Expr{Kind: impl.ExInSub}, []int{0, 0}},
		{impl.Expr{Kind: impl.ExLit, Kids: []impl.Expr{a, a}}, []int{0, 0, 0}},
		{impl.Expr{Kind: impl.ExCol, Kids: []impl.Expr{a, a}}, []int{0, 0, 0}},
		{impl.Expr{Kind: impl.ExExists, Kids: []impl.Expr{a, a}}, []int{0, 0, 0}},
		{impl.Expr{Kids: []impl.Expr{a, a}}, []int{0, 0, 0}},
		{impl.Expr{Kind: 10, Op: impl.OpOr, Kids: []impl.Expr{a, a}}, []int{0, 0, 0}},
		{applied(impl.OpNot, a, a), []int{0, 0, 0}},
		{applied(impl.OpRem, a), []int{0, 0}},
		{applied(0, a, a), []int{0, 0, 0}},
		{applied(17, a), []int{0, 0}},
	}
	for _, row := range rows {
		for k, want := range row.want {
			checkNeeds(t, row.e, k, want)
		}
	}
}

// formsOf lists expressions of each level, those of level 0 first. Few of them are valid.
func formsOf() [10][]impl.Expr {
	var all [10][]impl.Expr
	for kind := -1; kind <= 11; kind++ {
		for op := -1; op <= 18; op++ {
			e := impl.Expr{Kind: kind, Op: op}
			all[levelByRules(e)] = append(all[levelByRules(e)], e)
		}
	}
	for _, e := range validExprs() {
		all[levelByRules(e)] = append(all[levelByRules(e)], e)
	}
	return all
}

func TestWrappedAtEveryPairOfLevels(t *testing.T) {
	forms := formsOf()
	for level, parents := range forms {
		if len(parents) == 0 {
			t.Fatalf("there is no expression of level %d", level)
		}
		for _, e := range parents {
			for n := 1; n <= 4; n++ {
				e.Kids = repeated(chain(1), n)
				for k := range n {
					checkWrappedAtEveryLevel(t, e, k, forms)
				}
			}
		}
	}
}

// checkWrappedAtEveryLevel puts expressions of each level into the place of Kid k.
func checkWrappedAtEveryLevel(t *testing.T, e impl.Expr, k int, forms [10][]impl.Expr) {
	t.Helper()
	for level, kids := range forms {
		for _, kid := range kids {
			e.Kids[k] = kid
			checkWrapped(t, e, k, level < needsByRules(e, k))
		}
	}
	e.Kids[k] = chain(1)
}

// TestWrappedOperands has Kids of the level just below, equal to and just above what is needed, and of levels 0, 1 and 9.
func TestWrappedOperands(t *testing.T) {
	a := column("", "a")
	or, and, not := applied(impl.OpOr, a, a), applied(impl.OpAnd, a, a), applied(impl.OpNot, a)
	eq, is, in := applied(impl.OpEq, a, a), tested(impl.ExIs, true, a), tested(impl.ExIn, false, a, a)
	cat, add, sub := applied(impl.OpCat, a, a), applied(impl.OpAdd, a, a), applied(impl.OpSub, a, a)
	mul, div, neg := applied(impl.OpMul, a, a), applied(impl.OpDiv, a, a), applied(impl.OpNeg, a)
	rows := []struct {
		e        impl.Expr
		kids     []impl.Expr
		unneeded int // the first of kids that is not wrapped as Kid 0
		right    int // the first of kids that is not wrapped as any other Kid
	}{
		{or, []impl.Expr{{}, or, and, not}, 1, 2},
		{and, []impl.Expr{{}, or, and, not, eq}, 2, 3},
		{not, []impl.Expr{{}, or, and, not, is}, 3, 3},
		{eq, []impl.Expr{{}, or, not, eq, is, in, cat, add, a}, 6, 6},
		{is, []impl.Expr{{}, or, not, eq, is, in, cat, add, a}, 6, 6},
		{tested(impl.ExBetween, false, a, a, a), []impl.Expr{{}, or, and, not, eq, is, in, cat, sub, a}, 7, 7},
		{in, []impl.Expr{{}, or, and, not, eq, is, in, cat, sub, a}, 7, 1},
		{inSub(true, a, full()), []impl.Expr{{}, or, and, not, eq, is, in, cat, sub, a}, 7, 7},
		{cat, []impl.Expr{{}, or, eq, in, cat, add, sub, mul}, 4, 5},
		{add, []impl.Expr{{}, or, eq, cat, add, sub, mul, div, neg}, 4, 6},
		{sub, []impl.Expr{{}, or, eq, cat, add, sub, mul, div, neg}, 4, 6},
		{mul, []impl.Expr{{}, not, cat, add, sub, mul, div, neg, a}, 5, 7},
		{div, []impl.Expr{{}, not, cat, add, sub, mul, div, neg, a}, 5, 7},
		{neg, []impl.Expr{{}, or, not, eq, cat, add, mul, neg, a, exists(starred())}, 7, 7},
	}
	for _, row := range rows {
		for k := range row.e.Kids {
			unwrapped := row.right
			if k == 0 {
				unwrapped = row.unneeded
			}
			for i, kid := range row.kids {
				e := copied(row.e)
				e.Kids[k] = kid
				checkWrapped(t, e, k, i < unwrapped)
			}
		}
	}
}

func TestWrappedAtBothOperandsOfTheSameOperator(t *testing.T) {
	for op := 1; op <= 14; op++ {
		same := applied(op, chain(1), chain(1))
		both := applied(op, same, same)
		comparison := op >= 3 && op <= 8
		checkWrapped(t, both, 0, comparison)
		checkWrapped(t, both, 1, true)
		if comparison {
			checkWraps(t, both, 2)
		} else {
			checkWraps(t, both, 1)
		}
	}
	for _, op := range []int{15, 16} {
		checkWraps(t, applied(op, applied(op, applied(op, chain(1)))), 0)
	}
}

func TestWrappedWhereThereIsNoKid(t *testing.T) {
	for _, e := range append(append(validExprs(), invalidExprs()...), impl.Expr{Kind: 5, Kids: []impl.Expr{{}, {}}}) {
		for _, k := range placesAround(len(e.Kids)) {
			checkWrapped(t, e, k, wrappedByRules(e, k))
			if k < 0 || k >= len(e.Kids) {
				checkWrapped(t, e, k, false)
				checkWrapped(t, remade(e, roomyLists), k, false)
			}
		}
	}
}

// wrapping returns a valid expression with n wrapped Kids, all at the same depth.
func wrapping(n int) impl.Expr {
	or := applied(impl.OpOr, column("", "a"), column("", "b"))
	if n == 0 {
		return or
	}
	e := applied(impl.OpNeg, or)
	for range n - 1 {
		e = applied(impl.OpAdd, e, applied(impl.OpNeg, or))
	}
	return e
}

func TestWrapsOfNone(t *testing.T) {
	for _, e := range validExprs() {
		checkWraps(t, e, 0)
	}
	checkWraps(t, impl.Expr{}, 0)
	for n := 1; n <= 30; n++ {
		checkWraps(t, chain(n), 0)
	}
	// A Kid of level 0 needs nothing in an expression of level 0 or 9.
	for kind := range 12 {
		e := impl.Expr{Kind: kind, Kids: make([]impl.Expr, 3)}
		want := map[int]int{5: 3, 6: 3, 7: 3, 8: 3}[kind]
		checkWraps(t, e, want)
	}
}

func TestWrapsAtSeveralDepths(t *testing.T) {
	a := column("", "a")
	for n := range 20 {
		checkWraps(t, wrapping(n), n)
		checkWraps(t, tested(impl.ExIs, true, wrapping(n)), max(n, 1))
		checkWraps(t, tested(impl.ExIn, false, a, wrapping(n), wrapping(3)), n+3)
	}
	left, right := a, a
	for n := range 40 {
		checkWraps(t, left, 0)
		checkWraps(t, right, max(n-1, 0))
		left, right = applied(impl.OpSub, left, a), applied(impl.OpSub, a, right)
	}
	e := applied(impl.OpOr, a, a)
	for n := range 40 {
		checkWraps(t, e, n)
		checkWraps(t, tested(impl.ExBetween, true, e, e, e), 3*n+3)
		// In each of them e is wrapped, and none of them is wrapped as an operand of AND.
		around := []impl.Expr{applied(impl.OpLt, e, a), applied(impl.OpNot, applied(impl.OpNeg, e)), applied(impl.OpMul, a, e), tested(impl.ExIs, false, e)}
		e = applied(impl.OpAnd, around[n%4], a)
	}
}

func TestWrapsOfPartsThatAreNotWrapped(t *testing.T) {
	// The Kids of a literal, of an EXISTS and of an invalid expression are not wrapped, but those within them are.
	for _, e := range []impl.Expr{{}, {Kind: impl.ExLit}, {Kind: impl.ExCol, Name: "a"}, {Kind: impl.ExExists}, {Kind: impl.ExBin, Op: 15}, {Kind: impl.ExUn, Op: 1}, {Kind: -4}} {
		e.Kids = []impl.Expr{wrapping(2), {}, wrapping(0), wrapping(3)}
		checkWraps(t, e, 5)
		e.Sub = []impl.Query{selecting(wrapping(4)), {}, selecting(wrapping(6))}
		checkWraps(t, e, 15)
	}
}

func TestWrapsInEachPlaceOfASub(t *testing.T) {
	for n := range 6 {
		for _, q := range queriesWith(wrapping(n)) {
			checkWrapsIn(t, q, n)
			checkWraps(t, exists(q), n)
			checkWraps(t, inSub(true, column("", "a"), q), n)
			checkWraps(t, inSub(false, wrapping(0), q), n+1)
			checkWraps(t, applied(impl.OpNot, applied(impl.OpAnd, exists(q), exists(q))), 2*n+1)
			for _, outer := range queriesWith(inSub(false, wrapping(0), q)) {
				checkWrapsIn(t, outer, n+1)
				checkWraps(t, exists(outer), n+1)
				checkWraps(t, tested(impl.ExIs, false, inSub(true, wrapping(2), outer)), n+1+2+1)
			}
		}
	}
}

func TestWrapsInAllPlacesOfAQuery(t *testing.T) {
	checkWrapsIn(t, impl.Query{}, 0)
	checkWrapsIn(t, starred(), 0)
	checkWrapsIn(t, full(), 0)
	checkWrapsIn(t, impl.Query{Distinct: true, From: []impl.Source{{Table: "t", As: "a"}, {}}, Limit: 9}, 0)
	q := everywhere().Query
	checkWrapsIn(t, q, 0)
	want := 0
	for i := range placesInQuery(&q) {
		alone := everywhere().Query
		*placesInQuery(&alone)[i] = wrapping(i + 1)
		checkWrapsIn(t, alone, i+1)
		checkWraps(t, exists(alone), i+1)
		*placesInQuery(&q)[i] = wrapping(i + 1)
		want += i + 1
		checkWrapsIn(t, q, want)
		checkWraps(t, exists(q), want)
	}
	if want != 45 {
		t.Errorf("the sum of nine places is %d", want)
	}
	// An expression of a query has no place in an operator, so that it is not wrapped itself.
	for _, e := range []impl.Expr{wrapping(0), {}, applied(impl.OpNot, chain(1))} {
		for _, q := range queriesWith(e) {
			checkWrapsIn(t, q, 0)
		}
	}
}

func TestWrapsInIgnoresStars(t *testing.T) {
	for n := range 6 {
		q := selecting(wrapping(n), wrapping(2))
		q.Items[0].Star = true
		checkWrapsIn(t, q, 2)
		checkWraps(t, exists(q), 2)
		checkWraps(t, inSub(false, wrapping(3), q), 3+2)
		q.Items[1].Star = true
		checkWrapsIn(t, q, 0)
		checkWraps(t, exists(selecting(exists(q))), 0)
	}
}

// checkLevelsByRules compares all functions of one expression, and of everything in it, with the rules.
func checkLevelsByRules(t *testing.T, e impl.Expr) {
	t.Helper()
	checkLevel(t, e, levelByRules(e))
	checkWraps(t, e, wrapsByRules(e))
	for k := -1; k <= len(e.Kids)+1; k++ {
		checkNeeds(t, e, k, needsByRules(e, k))
		checkWrapped(t, e, k, wrappedByRules(e, k))
	}
	for _, kid := range e.Kids {
		checkLevelsByRules(t, kid)
	}
	for _, q := range e.Sub {
		checkWrapsIn(t, q, wrapsInByRules(q))
		for _, part := range expressionsOf(q) {
			checkLevelsByRules(t, part)
		}
	}
}

func TestLevelsOfMutantsByRules(t *testing.T) {
	for _, e := range append(validExprs(), wrapping(3), exists(selecting(wrapping(2), applied(impl.OpSub, wrapping(0), wrapping(1))))) {
		visitMutants(e, func(other impl.Expr) { checkLevelsByRules(t, other) })
	}
}

func TestLevelsOfRandomTreesByRules(t *testing.T) {
	random := rand.New(rand.NewSource(90))
	wraps := 0
	for i := range 1000 {
		e := randomExpr(random, 1+i%9)
		checkLevelsByRules(t, e)
		wraps += wrapsByRules(e)
		q := randomQuery(random, 1+i%6)
		checkWrapsIn(t, q, wrapsInByRules(q))
	}
	if wraps < 1000 {
		t.Errorf("only %d Kids of random trees are wrapped", wraps)
	}
}

// writer writes an expression as words, with parentheses around its wrapped Kids. It leaves out the pair with the number omit, counted from 1.
type writer struct {
	words []string
	pairs int
	omit  int
}

func (w *writer) put(words ...string) { w.words = append(w.words, words...) }

func (w *writer) putKid(e impl.Expr, k int) {
	if !impl.Wrapped(e, k) {
		w.putExpr(e.Kids[k])
		return
	}
	w.pairs++
	if w.pairs == w.omit {
		w.putExpr(e.Kids[k])
		return
	}
	w.put("(")
	w.putExpr(e.Kids[k])
	w.put(")")
}

func (w *writer) putExpr(e impl.Expr) {
	if e.Kind == impl.ExUn {
		w.put(impl.OpText(e.Op))
	}
	if len(e.Kids) > 0 {
		w.putKid(e, 0)
	}
	if e.Not && e.Kind != impl.ExIs {
		w.put("NOT")
	}
	switch e.Kind {
	case impl.ExLit:
		w.put(strconv.Itoa(e.Value.Num))
	case impl.ExCol:
		w.put(e.Name)
	case impl.ExExists:
		w.put("EXISTS QUERY")
	case impl.ExBin:
		w.put(impl.OpText(e.Op))
		w.putKid(e, 1)
	case impl.ExIs:
		w.put("IS")
		if e.Not {
			w.put("NOT")
		}
		w.put("NULL")
	case impl.ExBetween:
		w.put("BETWEEN")
		w.putKid(e, 1)
		w.put("AND")
		w.putKid(e, 2)
	case impl.ExIn:
		w.put("IN (")
		w.putKid(e, 1)
		for k := 2; k < len(e.Kids); k++ {
			w.put(",")
			w.putKid(e, k)
		}
		w.put(")")
	case impl.ExInSub:
		w.put("IN QUERY")
	}
}

func written(e impl.Expr, omit int) ([]string, int) {
	w := writer{omit: omit}
	w.putExpr(e)
	return w.words, w.pairs
}

// reader reads words by the grammar of chapter 12. Its queries are a single word.
type reader struct {
	words []string
	bad   bool
}

func (r *reader) take(word string) bool {
	if len(r.words) == 0 || r.words[0] != word {
		return false
	}
	r.words = r.words[1:]
	return true
}

func (r *reader) must(word string) {
	if !r.take(word) {
		r.bad = true
	}
}

// takeOp takes a binary operator from first to last and returns its number, or 0.
func (r *reader) takeOp(first, last int) int {
	for op := first; op <= last; op++ {
		if r.take(operators[op-1]) {
			return op
		}
	}
	return 0
}

// chained reads operands with operators from first to last between them.
func (r *reader) chained(first, last int, operand func() impl.Expr) impl.Expr {
	e := operand()
	for op := r.takeOp(first, last); op != 0; op = r.takeOp(first, last) {
		e = applied(op, e, operand())
	}
	return e
}

func (r *reader) or() impl.Expr   { return r.chained(1, 1, r.and) }
func (r *reader) and() impl.Expr  { return r.chained(2, 2, r.not) }
func (r *reader) cat() impl.Expr  { return r.chained(9, 9, r.sum) }
func (r *reader) sum() impl.Expr  { return r.chained(10, 11, r.prod) }
func (r *reader) prod() impl.Expr { return r.chained(12, 14, r.neg) }

func (r *reader) not() impl.Expr {
	if r.take("NOT") {
		return applied(impl.OpNot, r.not())
	}
	return r.cmp()
}

func (r *reader) cmp() impl.Expr {
	e := r.cat()
	if op := r.takeOp(3, 8); op != 0 {
		return applied(op, e, r.cat())
	}
	if r.take("IS") {
		not := r.take("NOT")
		r.must("NULL")
		return tested(impl.ExIs, not, e)
	}
	not := r.take("NOT")
	switch {
	case r.take("BETWEEN"):
		low := r.cat()
		r.must("AND")
		return tested(impl.ExBetween, not, e, low, r.cat())
	case r.take("IN QUERY"):
		return inSub(not, e, starred())
	case r.take("IN ("):
		kids := []impl.Expr{e, r.or()}
		for r.take(",") {
			kids = append(kids, r.or())
		}
		r.must(")")
		return tested(impl.ExIn, not, kids...)
	}
	r.bad = r.bad || not
	return e
}

func (r *reader) neg() impl.Expr {
	if r.take("-") {
		return applied(impl.OpNeg, r.neg())
	}
	if r.take("(") {
		e := r.or()
		r.must(")")
		return e
	}
	return r.leaf()
}

func (r *reader) leaf() impl.Expr {
	for _, e := range leaves() {
		if words, _ := written(e, 0); r.take(words[0]) {
			return e
		}
	}
	r.bad = true
	return impl.Expr{}
}

func readWords(words []string) (impl.Expr, bool) {
	r := reader{words: words}
	e := r.or()
	return e, !r.bad && len(r.words) == 0
}

func leaves() []impl.Expr {
	return []impl.Expr{lit(intOf(7)), column("", "a"), column("", "b"), exists(starred())}
}

// growths lists expressions of every kind and operator whose Kids are of the list by turns.
func growths(list ...impl.Expr) []impl.Expr {
	next := func(n int) []impl.Expr {
		var kids []impl.Expr
		for range n {
			kids = append(kids, list[0])
			list = append(list[1:], list[0])
		}
		return kids
	}
	all := []impl.Expr{applied(impl.OpNot, next(1)...), applied(impl.OpNeg, next(1)...)}
	for op := 1; op <= 14; op++ {
		all = append(all, applied(op, next(2)...))
	}
	for _, not := range []bool{false, true} {
		all = append(all, tested(impl.ExIs, not, next(1)...), tested(impl.ExBetween, not, next(3)...),
			tested(impl.ExIn, not, next(2)...), tested(impl.ExIn, not, next(4)...), inSub(not, next(1)[0], starred()))
	}
	return all
}

// checkParentheses checks that e can be read back from what is written with parentheses around its wrapped Kids, and not without any one of these pairs.
func checkParentheses(t *testing.T, e impl.Expr) {
	t.Helper()
	words, pairs := written(e, 0)
	if pairs != impl.Wraps(e) {
		t.Errorf("Wraps is %d where %d pairs are written: %q", impl.Wraps(e), pairs, words)
	}
	if back, ok := readWords(words); !ok || !sameByRules(back, e) {
		t.Errorf("parentheses are missing in %q", words)
	}
	for omit := 1; omit <= pairs; omit++ {
		fewer, _ := written(e, omit)
		if back, ok := readWords(fewer); ok && sameByRules(back, e) {
			t.Errorf("pair %d is not needed in %q", omit, words)
		}
	}
}

func TestParenthesesOfEveryPairOfOperators(t *testing.T) {
	for _, kid := range append(growths(leaves()...), leaves()...) {
		for _, parent := range growths(leaves()...) {
			checkParentheses(t, parent)
			for k := range parent.Kids {
				e := copied(parent)
				e.Kids[k] = kid
				checkParentheses(t, e)
			}
		}
	}
}

func TestParenthesesOfThreeOperators(t *testing.T) {
	inner := growths(leaves()...)
	for _, outer := range growths(leaves()...) {
		for k := range outer.Kids {
			for _, middle := range growths(leaves()...) {
				for j := range middle.Kids {
					e := copied(outer)
					e.Kids[k] = copied(middle)
					e.Kids[k].Kids[j] = inner[(k+j+len(inner)/2)%len(inner)]
					checkParentheses(t, e)
					inner = append(inner[1:], inner[0])
				}
			}
		}
	}
}

func TestParenthesesOfRandomTrees(t *testing.T) {
	random := rand.New(rand.NewSource(91))
	list, pairs := leaves(), 0
	for range 3000 {
		grown := growths(list[random.Intn(len(list))], list[random.Intn(len(list))], list[random.Intn(len(list))])
		e := grown[random.Intn(len(grown))]
		if impl.SizeOf(e) > 60 {
			continue
		}
		checkParentheses(t, e)
		pairs += impl.Wraps(e)
		list = append(list, e)
	}
	if len(list) < 1000 || pairs < 3000 {
		t.Errorf("only %d random trees with %d pairs were written", len(list), pairs)
	}
}

// callLevels calls every function of precedence with e and with its Sub.
func callLevels(e impl.Expr) {
	impl.LevelOf(e)
	impl.Wraps(e)
	for _, k := range []int{math.MinInt, -1, 0, 1, 2, 3, 4, 5, math.MaxInt} {
		impl.Needs(e, k)
		impl.Wrapped(e, k)
	}
	for _, q := range e.Sub {
		impl.WrapsIn(q)
	}
}

func TestLevelsDoNotChangeTrees(t *testing.T) {
	random := rand.New(rand.NewSource(92))
	list := append(append(validExprs(), invalidExprs()...), wrapping(5), impl.Expr{})
	for _, q := range append(append(invalidQueries(), full()), queriesWith(wrapping(2))...) {
		list = append(list, exists(q), impl.Expr{Kind: impl.ExIs, Kids: []impl.Expr{exists(q), wrapping(2)}, Sub: []impl.Query{q, full()}})
	}
	for i := range 300 {
		list = append(list, randomExpr(random, 1+i%7))
	}
	for _, e := range list {
		// With unused capacity in every slice, an append to one of them is seen too.
		roomy := remade(e, roomyLists)
		before := remade(roomy, wholeLists)
		callLevels(roomy)
		if !reflect.DeepEqual(remade(roomy, wholeLists), before) {
			t.Errorf("a call changes %s", described(e))
		}
		callLevels(remade(e, emptyLists))
	}
}

// wrapped returns an expression of the given depth in which every Kid that has Kids is wrapped, through queries too if that is asked for.
func wrapped(depth int, queries bool) impl.Expr {
	e := chain(1)
	for i := range depth {
		e = applied(impl.OpSub, column("", "a"), e)
		if queries && i%4 == 3 {
			e = exists(queriesWith(e)[i/4%4])
		}
	}
	return e
}

// TestWrapsOfVeryDeepTrees has trees for which a stack that ends early would not suffice if a function called itself for each part.
func TestWrapsOfVeryDeepTrees(t *testing.T) {
	defer debug.SetMaxStack(debug.SetMaxStack(1 << 24))
	deep := wrapped(500000, false)
	for _, q := range queriesWith(deep) {
		if n := impl.WrapsIn(q); n != 499999 {
			t.Errorf("a very deep query has %d wrapped Kids", n)
		}
	}
	if n := impl.Wraps(deep); n != 499999 {
		t.Errorf("a very deep expression has %d wrapped Kids", n)
	}
	// The expression of a query is not wrapped, and neither is an EXISTS.
	if n := impl.Wraps(wrapped(40000, true)); n != 30000 {
		t.Errorf("a very deep expression with queries has %d wrapped Kids", n)
	}
	left := chain(1)
	for range 500000 {
		left = applied(impl.OpSub, left, column("", "a"))
	}
	if n := impl.Wraps(left); n != 0 {
		t.Errorf("a very deep expression has %d wrapped left operands", n)
	}
	if impl.LevelOf(deep) != 6 || impl.Needs(deep, 1) != 7 || !impl.Wrapped(deep, 1) || impl.Wrapped(left, 0) {
		t.Error("the precedence of a very deep expression is wrong")
	}
}

func TestWrapsOfVeryLargeTrees(t *testing.T) {
	or := wrapping(0)
	const n = 300000
	checkWide(t, tested(impl.ExIn, true, repeated(or, n)...), 1)
	checkWide(t, tested(impl.ExBetween, true, repeated(or, n)...), n)
	checkWide(t, impl.Expr{Kind: impl.ExUn, Op: impl.OpNot, Kids: repeated(or, n)}, n)
	checkWide(t, impl.Expr{Kind: impl.ExBin, Op: impl.OpOr, Kids: repeated(or, n)}, n-1)
	checkWide(t, impl.Expr{Kind: impl.ExLit, Kids: repeated(or, n)}, 0)
	checkWide(t, exists(selecting(repeated(wrapping(1), n)...)), n)
	checkWide(t, impl.Expr{Sub: repeated(selecting(wrapping(1)), n)}, n)
	e := or
	for range 17 {
		e = tested(impl.ExIs, false, e, e)
	}
	checkWide(t, e, 1<<18-2)
}

// checkWide checks Wraps without describing e.
func checkWide(t *testing.T, e impl.Expr, want int) {
	t.Helper()
	if got := impl.Wraps(e); got != want {
		t.Errorf("a very large expression of the kind %d has %d wrapped Kids, want %d", e.Kind, got, want)
	}
	if got := impl.WrapsIn(selecting(e)); got != want {
		t.Errorf("a very large query has %d wrapped Kids, want %d", got, want)
	}
}
