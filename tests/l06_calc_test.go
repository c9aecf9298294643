package tests

import (
	"math"
	"math/big"
	"math/rand"
	"slices"
	"strings"
	"testing"

	"loop.example/g00495/impl"
)

var null, yes, no = value(0, 0, ""), value(3, 1, ""), value(3, 0, "")

func intOf(n int) impl.Value { return value(1, n, "") }

func textOf(s string) impl.Value { return value(2, 0, s) }

// operators lists the text of every operator; the first is the operator 1.
var operators = []string{"OR", "AND", "=", "<>", "<", "<=", ">", ">=", "||", "+", "-", "*", "/", "%", "NOT", "-"}

// kindSamples lists values of the kinds NULL, integer, text and boolean, in this order.
func kindSamples() [][]impl.Value {
	return [][]impl.Value{
		{null},
		{intOf(0), intOf(1), intOf(-1), intOf(7), intOf(math.MinInt), intOf(math.MaxInt)},
		{textOf(""), textOf("a"), textOf("1"), textOf("TRUE"), textOf("NULL"), textOf("\xff"), textOf(long(200))},
		{no, yes},
	}
}

// strangeOps lists numbers that are no binary operators.
func strangeOps() []int {
	list := []int{0, -1, -2, -3, -14, -15, -16, 15, 16, 17, 18, 19, 31, 32, 100, 1<<8 + 3, 1<<16 + 10, 1<<32 + 1}
	for _, n := range edgeInts() {
		if n < 1 || n > 14 {
			list = append(list, n)
		}
	}
	return list
}

// checkCalc checks that Calc returns want and no error.
func checkCalc(t *testing.T, op int, a, b, want impl.Value) {
	t.Helper()
	if got, code := impl.Calc(op, a, b); got != want || code != 0 {
		t.Errorf("Calc(%d, %#v, %#v) = %#v, %d, want %#v, 0", op, a, b, got, code, want)
	}
}

// checkCalcFails checks that Calc returns the zero Value and code.
func checkCalcFails(t *testing.T, op int, a, b impl.Value, code int) {
	t.Helper()
	if got, gotCode := impl.Calc(op, a, b); got != null || gotCode != code {
		t.Errorf("Calc(%d, %#v, %#v) = %#v, %d, want the zero value, %d", op, a, b, got, gotCode, code)
	}
}

func checkUnary(t *testing.T, op int, a, want impl.Value, code int) {
	t.Helper()
	if got, gotCode := impl.Unary(op, a); got != want || gotCode != code {
		t.Errorf("Unary(%d, %#v) = %#v, %d, want %#v, %d", op, a, got, gotCode, want, code)
	}
}

func TestOperatorConstants(t *testing.T) {
	list := []int{
		impl.OpOr, impl.OpAnd, impl.OpEq, impl.OpNe, impl.OpLt, impl.OpLe, impl.OpGt, impl.OpGe,
		impl.OpCat, impl.OpAdd, impl.OpSub, impl.OpMul, impl.OpDiv, impl.OpRem, impl.OpNot, impl.OpNeg,
	}
	if !slices.Equal(list, []int{1, 2, 3, 4, 5, 6, 7, 8, 9, 10, 11, 12, 13, 14, 15, 16}) {
		t.Errorf("the operators are %v", list)
	}
	if impl.ErType != 1 || impl.ErOver != 2 || impl.ErZero != 3 {
		t.Errorf("the errors are %d, %d and %d", impl.ErType, impl.ErOver, impl.ErZero)
	}
}

// numCase is a pair of integers and their result, unless there is none.
type numCase struct {
	a, b, want int
	ok         bool
}

func checkNum(t *testing.T, what string, calc func(a, b int) (int, bool), a, b, want int, ok bool) {
	t.Helper()
	if got, gotOk := calc(a, b); got != want || gotOk != ok {
		t.Errorf("%s(%d, %d) = %d, %v, want %d, %v", what, a, b, got, gotOk, want, ok)
	}
}

func TestAddNum(t *testing.T) {
	for _, c := range []numCase{
		{0, 0, 0, true},
		{1, 2, 3, true},
		{-1, -2, -3, true},
		{5, -7, -2, true},
		{7, -5, 2, true},
		{math.MaxInt, 0, math.MaxInt, true},
		{math.MaxInt, 1, 0, false},
		{math.MaxInt, -1, math.MaxInt - 1, true},
		{math.MaxInt, math.MaxInt, 0, false},
		{math.MaxInt - 1, 1, math.MaxInt, true},
		{math.MaxInt - 1, 2, 0, false},
		{math.MinInt, 0, math.MinInt, true},
		{math.MinInt, 1, math.MinInt + 1, true},
		{math.MinInt, -1, 0, false},
		{math.MinInt, math.MinInt, 0, false},
		{math.MinInt, math.MaxInt, -1, true},
		{math.MinInt + 1, -1, math.MinInt, true},
		{math.MinInt + 1, -2, 0, false},
		{math.MinInt + 1, math.MaxInt, 0, true},
		{1 << 62, 1 << 62, 0, false},
		{1 << 62, 1<<62 - 1, math.MaxInt, true},
		{-1 << 62, -1 << 62, math.MinInt, true},
		{-1 << 62, -1<<62 - 1, 0, false},
		{1 << 31, 1 << 31, 1 << 32, true},
		{math.MaxInt32, 1, 1 << 31, true},
	} {
		checkNum(t, "AddNum", impl.AddNum, c.a, c.b, c.want, c.ok)
		checkNum(t, "AddNum", impl.AddNum, c.b, c.a, c.want, c.ok)
	}
}

func TestSubNum(t *testing.T) {
	for _, c := range []numCase{
		{0, 0, 0, true},
		{1, 2, -1, true},
		{2, 1, 1, true},
		{-1, -2, 1, true},
		{5, -7, 12, true},
		{-7, 5, -12, true},
		{math.MaxInt, 0, math.MaxInt, true},
		{0, math.MaxInt, -math.MaxInt, true},
		{math.MaxInt, 1, math.MaxInt - 1, true},
		{1, math.MaxInt, math.MinInt + 2, true},
		{math.MaxInt, -1, 0, false},
		{-1, math.MaxInt, math.MinInt, true},
		{-2, math.MaxInt, 0, false},
		{math.MaxInt, math.MaxInt, 0, true},
		{math.MaxInt - 1, -1, math.MaxInt, true},
		{math.MaxInt - 1, -2, 0, false},
		{math.MinInt, 0, math.MinInt, true},
		{0, math.MinInt, 0, false},
		{math.MinInt, 1, 0, false},
		{1, math.MinInt, 0, false},
		{math.MinInt, -1, math.MinInt + 1, true},
		{-1, math.MinInt, math.MaxInt, true},
		{-2, math.MinInt, math.MaxInt - 1, true},
		{math.MinInt, math.MinInt, 0, true},
		{math.MinInt, math.MaxInt, 0, false},
		{math.MaxInt, math.MinInt, 0, false},
		{math.MinInt + 1, 1, math.MinInt, true},
		{math.MinInt + 1, 2, 0, false},
		{0, math.MinInt + 1, math.MaxInt, true},
		{1, math.MinInt + 1, 0, false},
		{1 << 62, -1 << 62, 0, false},
		{1<<62 - 1, -1 << 62, math.MaxInt, true},
		{-1 << 62, 1 << 62, math.MinInt, true},
		{-1<<62 - 1, 1 << 62, 0, false},
	} {
		checkNum(t, "SubNum", impl.SubNum, c.a, c.b, c.want, c.ok)
	}
}

func TestMulNum(t *testing.T) {
	for _, c := range []numCase{
		{0, 0, 0, true},
		{0, 1, 0, true},
		{0, -1, 0, true},
		{1, 1, 1, true},
		{1, -1, -1, true},
		{-1, -1, 1, true},
		{6, 7, 42, true},
		{-6, 7, -42, true},
		{-6, -7, 42, true},
		{math.MaxInt, 0, 0, true},
		{math.MaxInt, 1, math.MaxInt, true},
		{math.MaxInt, -1, -math.MaxInt, true},
		{math.MaxInt, 2, 0, false},
		{math.MaxInt, -2, 0, false},
		{math.MaxInt, math.MaxInt, 0, false},
		{math.MinInt, 0, 0, true},
		{math.MinInt, 1, math.MinInt, true},
		{math.MinInt, -1, 0, false},
		{math.MinInt, 2, 0, false},
		{math.MinInt, -2, 0, false},
		{math.MinInt, math.MinInt, 0, false},
		{math.MinInt, math.MaxInt, 0, false},
		{math.MinInt + 1, -1, math.MaxInt, true},
		{math.MinInt + 1, 1, math.MinInt + 1, true},
		{math.MaxInt / 2, 2, math.MaxInt - 1, true},
		{math.MaxInt/2 + 1, 2, 0, false},
		{math.MaxInt/2 + 1, -2, math.MinInt, true},
		{math.MaxInt/2 + 2, -2, 0, false},
		{math.MinInt / 2, 2, math.MinInt, true},
		{math.MinInt/2 - 1, 2, 0, false},
		{math.MinInt / 2, -2, 0, false},
		{math.MinInt/2 + 1, -2, math.MaxInt - 1, true},
		{1 << 31, 1 << 31, 1 << 62, true},
		{1 << 31, 1 << 32, 0, false},
		{-1 << 31, 1 << 32, math.MinInt, true},
		{-1 << 31, -1 << 32, 0, false},
		{1 << 32, 1 << 32, 0, false},
		{1 << 62, 4, 0, false},
		{3037000499, 3037000499, 9223372030926249001, true},
		{3037000500, 3037000500, 0, false},
		// 2 to the power of 63, less 1, is 7 * 7 * 73 * 127 * 337 * 92737 * 649657.
		{649657, 14197294936951, math.MaxInt, true},
		{-649657, 14197294936951, -math.MaxInt, true},
		{649657, 14197294936952, 0, false},
	} {
		checkNum(t, "MulNum", impl.MulNum, c.a, c.b, c.want, c.ok)
		checkNum(t, "MulNum", impl.MulNum, c.b, c.a, c.want, c.ok)
	}
}

// fitted returns n and true, or 0 and false if n does not fit into 64 bits.
func fitted(n *big.Int) (int, bool) {
	if !n.IsInt64() {
		return 0, false
	}
	return int(n.Int64()), true
}

func exactAdd(a, b int) (int, bool) {
	return fitted(new(big.Int).Add(big.NewInt(int64(a)), big.NewInt(int64(b))))
}

func exactSub(a, b int) (int, bool) {
	return fitted(new(big.Int).Sub(big.NewInt(int64(a)), big.NewInt(int64(b))))
}

func exactMul(a, b int) (int, bool) {
	return fitted(new(big.Int).Mul(big.NewInt(int64(a)), big.NewInt(int64(b))))
}

// exactQuo rounds toward zero. b is not 0.
func exactQuo(a, b int) (int, bool) {
	return fitted(new(big.Int).Quo(big.NewInt(int64(a)), big.NewInt(int64(b))))
}

// exactRem has the sign of a. b is not 0.
func exactRem(a, b int) (int, bool) {
	return fitted(new(big.Int).Rem(big.NewInt(int64(a)), big.NewInt(int64(b))))
}

// checkNums compares AddNum, SubNum and MulNum of a and b with exact numbers.
func checkNums(t *testing.T, a, b int) {
	t.Helper()
	n, ok := exactAdd(a, b)
	checkNum(t, "AddNum", impl.AddNum, a, b, n, ok)
	n, ok = exactSub(a, b)
	checkNum(t, "SubNum", impl.SubNum, a, b, n, ok)
	n, ok = exactMul(a, b)
	checkNum(t, "MulNum", impl.MulNum, a, b, n, ok)
}

func TestNumsAtEdges(t *testing.T) {
	for _, a := range edgeInts() {
		for _, b := range edgeInts() {
			checkNums(t, a, b)
		}
	}
}

func TestNumsThatJustFit(t *testing.T) {
	random := rand.New(rand.NewSource(6))
	for range 5000 {
		a := int(random.Uint64()) >> random.Intn(64)
		for d := -2; d <= 2; d++ {
			// Go's integers wrap around here, so that some of the operands lie at the other end.
			checkNums(t, a, math.MaxInt-a+d)
			checkNums(t, math.MaxInt-a+d, a)
			checkNums(t, a, math.MinInt-a+d)
			checkNums(t, a, a-math.MaxInt+d)
			checkNums(t, a, a-math.MinInt+d)
			checkNums(t, a-math.MinInt+d, a)
			checkNums(t, math.MinInt+a+d, a)
			checkNums(t, math.MaxInt+a+d, a)
			if a != 0 {
				checkNums(t, a, math.MaxInt/a+d)
				checkNums(t, math.MaxInt/a+d, a)
				checkNums(t, a, math.MinInt/a+d)
				checkNums(t, math.MinInt/a+d, a)
			}
		}
		checkNums(t, a, int(random.Uint64())>>random.Intn(64))
	}
}

func TestCalcAtKinds(t *testing.T) {
	// In each table, the rows are the first operand and the columns the second one: NULL, integer, text, boolean. "e" is ErType, "n" is NULL, "v" is a result that depends on the operands.
	connective := []string{"neev", "eeee", "eeee", "veev"}
	comparison := []string{"nnnn", "nvee", "neve", "neev"}
	texts := []string{"nene", "eeee", "neve", "eeee"}
	numbers := []string{"nnee", "nvee", "eeee", "eeee"}
	for op := 1; op <= 14; op++ {
		table := numbers
		switch operators[op-1] {
		case "OR", "AND":
			table = connective
		case "=", "<>", "<", "<=", ">", ">=":
			table = comparison
		case "||":
			table = texts
		}
		for i, row := range table {
			for j := range row {
				checkCalcAtKinds(t, op, row[j], kindSamples()[i], kindSamples()[j])
			}
		}
	}
}

// checkCalcAtKinds checks Calc at every pair of the values first and second against a place in a table of TestCalcAtKinds.
func checkCalcAtKinds(t *testing.T, op int, want byte, first, second []impl.Value) {
	t.Helper()
	for _, a := range first {
		for _, b := range second {
			switch want {
			case 'e':
				checkCalcFails(t, op, a, b, impl.ErType)
			case 'n':
				checkCalc(t, op, a, b, null)
			default:
				if v, code := impl.Calc(op, a, b); code == impl.ErType || !impl.ValueOk(v) || code != 0 && v != null {
					t.Errorf("Calc(%d, %#v, %#v) = %#v, %d", op, a, b, v, code)
				}
			}
		}
	}
}

func TestCalcAtStrangeOperators(t *testing.T) {
	values := slices.Concat(kindSamples()...)
	for _, op := range strangeOps() {
		for _, a := range values {
			for _, b := range values {
				checkCalcFails(t, op, a, b, impl.ErType)
			}
			for _, b := range invalidValues() {
				checkCalcFails(t, op, a, b, impl.ErType)
			}
		}
	}
}

func TestCalcAtInvalidValues(t *testing.T) {
	values := slices.Concat(kindSamples()...)
	for op := 1; op <= 14; op++ {
		for _, bad := range invalidValues() {
			for _, other := range values {
				// Neither NULL nor a decisive operand makes up for an invalid one.
				checkCalcFails(t, op, bad, other, impl.ErType)
				checkCalcFails(t, op, other, bad, impl.ErType)
			}
			checkCalcFails(t, op, bad, bad, impl.ErType)
		}
	}
}

func TestConnectives(t *testing.T) {
	for _, c := range []struct{ a, b, or, and impl.Value }{
		{no, no, no, no},
		{no, null, null, no},
		{no, yes, yes, no},
		{null, no, null, no},
		{null, null, null, null},
		{null, yes, yes, null},
		{yes, no, yes, no},
		{yes, null, yes, null},
		{yes, yes, yes, yes},
	} {
		checkCalc(t, impl.OpOr, c.a, c.b, c.or)
		checkCalc(t, impl.OpAnd, c.a, c.b, c.and)
	}
}

func TestConnectivesTakeNoOtherKinds(t *testing.T) {
	for _, bad := range slices.Concat(kindSamples()[1], kindSamples()[2]) {
		for _, other := range []impl.Value{null, yes, no, bad} {
			for _, op := range []int{impl.OpOr, impl.OpAnd} {
				checkCalcFails(t, op, bad, other, impl.ErType)
				checkCalcFails(t, op, other, bad, impl.ErType)
			}
		}
	}
}

// checkComparisons checks the six comparisons of a with b, whose order is -1, 0 or 1.
func checkComparisons(t *testing.T, a, b impl.Value, order int) {
	t.Helper()
	for i, want := range []bool{order == 0, order != 0, order < 0, order <= 0, order > 0, order >= 0} {
		result := no
		if want {
			result = yes
		}
		checkCalc(t, impl.OpEq+i, a, b, result)
	}
}

func TestComparisons(t *testing.T) {
	for _, c := range []struct{ less, greater impl.Value }{
		{intOf(1), intOf(2)},
		{intOf(9), intOf(10)},
		{intOf(-1), intOf(0)},
		{intOf(-2), intOf(-1)},
		{intOf(math.MinInt), intOf(math.MaxInt)},
		{intOf(math.MinInt), intOf(1)},
		{intOf(-2), intOf(math.MaxInt)},
		{intOf(math.MinInt), intOf(math.MinInt + 1)},
		{intOf(math.MaxInt - 1), intOf(math.MaxInt)},
		{intOf(0), intOf(1 << 32)},
		{textOf(""), textOf("\x00")},
		{textOf(""), textOf("a")},
		{textOf("a"), textOf("b")},
		{textOf("a"), textOf("aa")},
		{textOf("a"), textOf("a\x00")},
		{textOf("ab"), textOf("b")},
		{textOf("10"), textOf("9")},
		{textOf("B"), textOf("a")},
		{textOf("z"), textOf("\x80")},
		{textOf("\x7f"), textOf("\xff")},
		{textOf("\x80"), textOf("\xff")},
		{textOf("\xff"), textOf("\xff\x00")},
		{textOf("a\x7f"), textOf("a\x80")},
		{textOf("z"), textOf("é")},
		{textOf("é"), textOf("\xff")},
		{textOf(long(199)), textOf(long(200))},
		{textOf(long(199) + "a"), textOf(long(199) + "\xfe")},
		{no, yes},
	} {
		checkComparisons(t, c.less, c.greater, -1)
		checkComparisons(t, c.greater, c.less, 1)
		checkComparisons(t, c.less, c.less, 0)
		checkComparisons(t, c.greater, c.greater, 0)
	}
}

func TestComparisonsOfAllValues(t *testing.T) {
	// The values are in ascending order.
	values := validValues()
	for i, a := range values {
		for j, b := range values {
			if a.Kind == b.Kind && a != null {
				checkComparisons(t, a, b, slices.Compare([]int{i}, []int{j}))
				continue
			}
			for op := impl.OpEq; op <= impl.OpGe; op++ {
				if a == null || b == null {
					checkCalc(t, op, a, b, null)
				} else {
					checkCalcFails(t, op, a, b, impl.ErType)
				}
			}
		}
	}
}

func TestCat(t *testing.T) {
	for _, c := range []struct{ a, b string }{
		{"", ""},
		{"", "a"},
		{"a", ""},
		{"a", "b"},
		{"b", "a"},
		{"it's", "'"},
		{"1", "2"},
		{"\x00", "\xff"},
		{"\xc3", "\xa9"},
		{"NULL", "TRUE"},
		{" ", " "},
	} {
		checkCalc(t, impl.OpCat, textOf(c.a), textOf(c.b), textOf(c.a+c.b))
	}
	checkCalc(t, impl.OpCat, textOf(""), null, null)
	checkCalc(t, impl.OpCat, null, textOf(""), null)
	checkCalc(t, impl.OpCat, null, null, null)
	// NULL determines the result before the length does.
	checkCalc(t, impl.OpCat, textOf(long(200)), null, null)
	checkCalc(t, impl.OpCat, null, textOf(long(200)), null)
	checkCalcFails(t, impl.OpCat, textOf("1"), intOf(1), impl.ErType)
	checkCalcFails(t, impl.OpCat, intOf(1), null, impl.ErType)
	checkCalcFails(t, impl.OpCat, null, yes, impl.ErType)
}

func TestCatAtEverySize(t *testing.T) {
	for i := range 201 {
		for j := range 201 {
			a, b := strings.Repeat("a", i), strings.Repeat("\xff", j)
			if i+j <= 200 {
				checkCalc(t, impl.OpCat, textOf(a), textOf(b), textOf(a+b))
			} else {
				checkCalcFails(t, impl.OpCat, textOf(a), textOf(b), impl.ErOver)
			}
		}
	}
	// The limit counts bytes and not characters.
	checkCalc(t, impl.OpCat, textOf(strings.Repeat("é", 50)), textOf(strings.Repeat("é", 50)), textOf(strings.Repeat("é", 100)))
	checkCalcFails(t, impl.OpCat, textOf(strings.Repeat("é", 50)), textOf(strings.Repeat("é", 51)), impl.ErOver)
	checkCalcFails(t, impl.OpCat, textOf(strings.Repeat("é", 100)), textOf("x"), impl.ErOver)
	checkCalcFails(t, impl.OpCat, textOf("x"), textOf(strings.Repeat("é", 100)), impl.ErOver)
	// A text that is too long by itself is no valid operand.
	checkCalcFails(t, impl.OpCat, textOf(long(201)), textOf(""), impl.ErType)
	checkCalcFails(t, impl.OpCat, textOf(""), textOf(long(201)), impl.ErType)
}

func TestSumsDifferencesAndProducts(t *testing.T) {
	for _, c := range []struct {
		op, a, b, want int
	}{
		{impl.OpAdd, 2, 3, 5},
		{impl.OpSub, 2, 3, -1},
		{impl.OpMul, 2, 3, 6},
		{impl.OpAdd, -2, 3, 1},
		{impl.OpSub, -2, 3, -5},
		{impl.OpMul, -2, 3, -6},
		{impl.OpAdd, math.MaxInt, math.MinInt, -1},
		{impl.OpAdd, math.MaxInt - 1, 1, math.MaxInt},
		{impl.OpAdd, math.MinInt + 1, -1, math.MinInt},
		{impl.OpSub, -1, math.MinInt, math.MaxInt},
		{impl.OpSub, -1, math.MaxInt, math.MinInt},
		{impl.OpSub, math.MinInt, math.MinInt, 0},
		{impl.OpMul, math.MinInt, 1, math.MinInt},
		{impl.OpMul, 1, math.MinInt, math.MinInt},
		{impl.OpMul, math.MinInt, 0, 0},
		{impl.OpMul, 0, math.MinInt, 0},
		{impl.OpMul, -1, math.MaxInt, -math.MaxInt},
		{impl.OpMul, -1 << 31, 1 << 32, math.MinInt},
	} {
		checkCalc(t, c.op, intOf(c.a), intOf(c.b), intOf(c.want))
	}
	for _, c := range []struct{ op, a, b int }{
		{impl.OpAdd, math.MaxInt, 1},
		{impl.OpAdd, 1, math.MaxInt},
		{impl.OpAdd, math.MinInt, -1},
		{impl.OpAdd, -1, math.MinInt},
		{impl.OpAdd, math.MinInt, math.MinInt},
		{impl.OpSub, math.MinInt, 1},
		{impl.OpSub, 0, math.MinInt},
		{impl.OpSub, math.MaxInt, -1},
		{impl.OpSub, math.MaxInt, math.MinInt},
		{impl.OpMul, math.MinInt, -1},
		{impl.OpMul, -1, math.MinInt},
		{impl.OpMul, math.MinInt, math.MinInt},
		{impl.OpMul, math.MaxInt, 2},
		{impl.OpMul, 1 << 32, 1 << 32},
	} {
		checkCalcFails(t, c.op, intOf(c.a), intOf(c.b), impl.ErOver)
	}
}

func TestQuotientsAndRemainders(t *testing.T) {
	for _, c := range []struct{ a, b, quotient, remainder int }{
		{7, 2, 3, 1},
		{-7, 2, -3, -1},
		{7, -2, -3, 1},
		{-7, -2, 3, -1},
		{6, 2, 3, 0},
		{-6, 2, -3, 0},
		{6, -2, -3, 0},
		{-6, -2, 3, 0},
		{1, 2, 0, 1},
		{-1, 2, 0, -1},
		{1, -2, 0, 1},
		{-1, -2, 0, -1},
		{0, 5, 0, 0},
		{0, -5, 0, 0},
		{0, -1, 0, 0},
		{5, 1, 5, 0},
		{5, -1, -5, 0},
		{-5, -1, 5, 0},
		{5, 5, 1, 0},
		{5, 6, 0, 5},
		{-5, 6, 0, -5},
		{math.MaxInt, 1, math.MaxInt, 0},
		{math.MaxInt, -1, -math.MaxInt, 0},
		{math.MaxInt, 2, 1<<62 - 1, 1},
		{math.MaxInt, math.MaxInt, 1, 0},
		{math.MaxInt, math.MinInt, 0, math.MaxInt},
		{math.MinInt, 1, math.MinInt, 0},
		{math.MinInt, 2, -1 << 62, 0},
		{math.MinInt, -2, 1 << 62, 0},
		{math.MinInt, 3, -3074457345618258602, -2},
		{math.MinInt, math.MinInt, 1, 0},
		{math.MinInt, math.MaxInt, -1, -1},
		{math.MinInt, -math.MaxInt, 1, -1},
		{math.MinInt + 1, -1, math.MaxInt, 0},
		{1, math.MinInt, 0, 1},
		{-1, math.MinInt, 0, -1},
		{-math.MaxInt, math.MinInt, 0, -math.MaxInt},
	} {
		checkCalc(t, impl.OpDiv, intOf(c.a), intOf(c.b), intOf(c.quotient))
		checkCalc(t, impl.OpRem, intOf(c.a), intOf(c.b), intOf(c.remainder))
	}
	checkCalcFails(t, impl.OpDiv, intOf(math.MinInt), intOf(-1), impl.ErOver)
	checkCalc(t, impl.OpRem, intOf(math.MinInt), intOf(-1), intOf(0))
}

func TestDivisionByZero(t *testing.T) {
	zero := intOf(0)
	for _, op := range []int{impl.OpDiv, impl.OpRem} {
		for _, n := range edgeInts() {
			checkCalcFails(t, op, intOf(n), zero, impl.ErZero)
		}
		checkCalc(t, op, null, zero, null)
		checkCalc(t, op, zero, null, null)
		checkCalc(t, op, null, intOf(-1), null)
		checkCalc(t, op, intOf(math.MinInt), null, null)
		for _, bad := range slices.Concat(kindSamples()[2], kindSamples()[3]) {
			checkCalcFails(t, op, bad, zero, impl.ErType)
			checkCalcFails(t, op, zero, bad, impl.ErType)
			checkCalcFails(t, op, bad, null, impl.ErType)
			checkCalcFails(t, op, null, bad, impl.ErType)
		}
	}
}

// exactNum returns the result of an operator from OpAdd to OpRem and 0, or 0 and an error.
func exactNum(op, a, b int) (int, int) {
	if b == 0 && op >= impl.OpDiv {
		return 0, impl.ErZero
	}
	exact := []func(a, b int) (int, bool){exactAdd, exactSub, exactMul, exactQuo, exactRem}[op-impl.OpAdd]
	if n, ok := exact(a, b); ok {
		return n, 0
	}
	return 0, impl.ErOver
}

// checkArithmetic compares Calc at the operators from OpAdd to OpRem with exact numbers.
func checkArithmetic(t *testing.T, a, b int) {
	t.Helper()
	for op := impl.OpAdd; op <= impl.OpRem; op++ {
		if n, code := exactNum(op, a, b); code == 0 {
			checkCalc(t, op, intOf(a), intOf(b), intOf(n))
		} else {
			checkCalcFails(t, op, intOf(a), intOf(b), code)
		}
	}
}

func TestArithmetic(t *testing.T) {
	for a := -20; a <= 20; a++ {
		for b := -20; b <= 20; b++ {
			checkArithmetic(t, a, b)
		}
	}
	for _, a := range edgeInts() {
		for _, b := range edgeInts() {
			checkArithmetic(t, a, b)
		}
	}
	random := rand.New(rand.NewSource(66))
	for range 20000 {
		checkArithmetic(t, int(random.Uint64())>>random.Intn(64), int(random.Uint64())>>random.Intn(64))
	}
}

func TestArithmeticAtNull(t *testing.T) {
	for op := impl.OpAdd; op <= impl.OpRem; op++ {
		for _, n := range edgeInts() {
			checkCalc(t, op, null, intOf(n), null)
			checkCalc(t, op, intOf(n), null, null)
		}
		checkCalc(t, op, null, null, null)
	}
}

func TestUnaryNot(t *testing.T) {
	checkUnary(t, impl.OpNot, yes, no, 0)
	checkUnary(t, impl.OpNot, no, yes, 0)
	checkUnary(t, impl.OpNot, null, null, 0)
	for _, bad := range slices.Concat(kindSamples()[1], kindSamples()[2]) {
		checkUnary(t, impl.OpNot, bad, null, impl.ErType)
	}
}

func TestUnaryNeg(t *testing.T) {
	for _, c := range []struct{ n, want int }{
		{0, 0},
		{1, -1},
		{-1, 1},
		{42, -42},
		{1 << 32, -1 << 32},
		{math.MaxInt, -math.MaxInt},
		{-math.MaxInt, math.MaxInt},
	} {
		checkUnary(t, impl.OpNeg, intOf(c.n), intOf(c.want), 0)
	}
	checkUnary(t, impl.OpNeg, intOf(math.MinInt), null, impl.ErOver)
	checkUnary(t, impl.OpNeg, null, null, 0)
	for _, n := range edgeInts() {
		if n != math.MinInt {
			checkUnary(t, impl.OpNeg, intOf(n), intOf(-n), 0)
		}
	}
	for _, bad := range slices.Concat(kindSamples()[2], kindSamples()[3]) {
		checkUnary(t, impl.OpNeg, bad, null, impl.ErType)
	}
}

func TestUnaryAtOtherOperators(t *testing.T) {
	ops := edgeInts()
	for op := -20; op <= 40; op++ {
		ops = append(ops, op)
	}
	for _, op := range ops {
		if op == 15 || op == 16 {
			continue
		}
		for _, a := range slices.Concat(kindSamples()...) {
			checkUnary(t, op, a, null, impl.ErType)
		}
		for _, bad := range invalidValues() {
			checkUnary(t, op, bad, null, impl.ErType)
		}
	}
}

func TestUnaryAtInvalidValues(t *testing.T) {
	for _, bad := range invalidValues() {
		checkUnary(t, impl.OpNot, bad, null, impl.ErType)
		checkUnary(t, impl.OpNeg, bad, null, impl.ErType)
	}
}

func TestIsTrue(t *testing.T) {
	for _, v := range validValues() {
		if got := impl.IsTrue(v); got != (v == yes) {
			t.Errorf("IsTrue(%#v) = %v", v, got)
		}
	}
	for _, n := range edgeInts() {
		for _, kind := range []int{0, 1, 2, 3, 4, -1, -3, 259} {
			if got := impl.IsTrue(value(kind, n, "")); got != (kind == 3 && n == 1) {
				t.Errorf("IsTrue at the kind %d and the number %d is %v", kind, n, got)
			}
		}
	}
	for _, n := range []int{2, -1, 3, 257, math.MinInt, math.MaxInt} {
		if impl.IsTrue(value(3, n, "")) || impl.IsTrue(value(3, n, "TRUE")) {
			t.Errorf("IsTrue at a boolean of the number %d is true", n)
		}
	}
	if impl.IsTrue(textOf("TRUE")) || impl.IsTrue(intOf(1)) || impl.IsTrue(value(2, 1, "TRUE")) || impl.IsTrue(value(3, 0, "TRUE")) {
		t.Error("IsTrue at values that only look like true")
	}
	// An invalid value counts too: only its kind and number are named.
	if !impl.IsTrue(value(3, 1, "x")) {
		t.Error("IsTrue at a boolean with the number 1 and a text is false")
	}
}

func TestOpText(t *testing.T) {
	for op := range 18 {
		want := ""
		if op >= 1 && op <= 16 {
			want = operators[op-1]
		}
		if got := impl.OpText(op); got != want {
			t.Errorf("OpText(%d) = %q, want %q", op, got, want)
		}
	}
	for _, op := range append(edgeInts(), -5, -15, -16, -17, 18, 19, 20, 256+3, 1<<32+1) {
		if got := impl.OpText(op); (op < 1 || op > 16) && got != "" {
			t.Errorf("OpText(%d) = %q", op, got)
		}
	}
}

func TestOpTextIsLexed(t *testing.T) {
	for op := 1; op <= 16; op++ {
		want := sign(operators[op-1], 0)
		if op == impl.OpOr || op == impl.OpAnd || op == impl.OpNot {
			want = key(operators[op-1], 0)
		}
		lexes(t, impl.OpText(op), want)
	}
}

// calcByRules applies a binary operator by the sentences of the document, in their order.
func calcByRules(op int, a, b impl.Value) (impl.Value, int) {
	kinds := map[string]int{"OR": 3, "AND": 3, "||": 2, "+": 1, "-": 1, "*": 1, "/": 1, "%": 1}
	text := "none"
	if op >= 1 && op <= 14 {
		text = operators[op-1]
	}
	kind, ok := kinds[text]
	switch {
	case text == "none" || !impl.ValueOk(a) || !impl.ValueOk(b):
		return null, impl.ErType
	case ok && (a != null && a.Kind != kind || b != null && b.Kind != kind):
		return null, impl.ErType
	case !ok && a != null && b != null && a.Kind != b.Kind:
		return null, impl.ErType
	case text == "OR" && (a == yes || b == yes):
		return yes, 0
	case text == "AND" && (a == no || b == no):
		return no, 0
	case a == null || b == null:
		return null, 0
	case text == "OR":
		return no, 0
	case text == "AND":
		return yes, 0
	case text == "||" && len(a.Text+b.Text) > 200:
		return null, impl.ErOver
	case text == "||":
		return textOf(a.Text + b.Text), 0
	case kind == 1:
		n, code := exactNum(op, a.Num, b.Num)
		if code != 0 {
			return null, code
		}
		return intOf(n), 0
	}
	// The texts of the comparisons are sets of the orders <, = and >.
	if strings.Contains(text, string("<=>"[orderByRules(a, b)+1])) {
		return yes, 0
	}
	return no, 0
}

func TestCalcByRules(t *testing.T) {
	values := append(validValues(), value(0, 1, ""), value(0, 0, "a"), value(1, 1, "a"), value(2, 1, "a"), value(2, 0, long(201)), value(3, 2, ""), value(3, 1, "a"), value(4, 0, ""), value(-1, 0, ""))
	for op := -2; op <= 20; op++ {
		for _, a := range values {
			for _, b := range values {
				want, wantCode := calcByRules(op, a, b)
				if got, code := impl.Calc(op, a, b); got != want || code != wantCode {
					t.Errorf("Calc(%d, %#v, %#v) = %#v, %d, want %#v, %d", op, a, b, got, code, want, wantCode)
				}
			}
		}
	}
}

// checkResult checks that a result is valid, and the zero Value if it comes with an error.
func checkResult(t *testing.T, v impl.Value, code int) {
	t.Helper()
	if code < 0 || code > impl.ErZero || code != 0 && v != null || !impl.ValueOk(v) {
		t.Errorf("a result is %#v with the error %d", v, code)
	}
}

func TestErrorsComeWithTheZeroValue(t *testing.T) {
	ops := append(strangeOps(), 1, 2, 3, 4, 5, 6, 7, 8, 9, 10, 11, 12, 13, 14)
	values := append(slices.Concat(kindSamples()...), value(3, 2, ""), value(0, 1, ""), value(1, 1, "a"), value(2, 0, long(201)), value(9, 9, "9"))
	for _, op := range ops {
		for _, a := range values {
			v, code := impl.Unary(op, a)
			checkResult(t, v, code)
			for _, b := range values {
				v, code := impl.Calc(op, a, b)
				checkResult(t, v, code)
			}
		}
	}
}
