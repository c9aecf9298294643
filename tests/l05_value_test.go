package tests

import (
	"bytes"
	"fmt"
	"math"
	"math/rand"
	"slices"
	"strings"
	"testing"
	"unsafe"

	"loop.example/g00495/impl"
)

func value(kind, num int, text string) impl.Value {
	return impl.Value{Kind: kind, Num: num, Text: text}
}

func long(size int) string { return strings.Repeat("x", size) }

// validValues lists valid values of every kind in ascending order.
func validValues() []impl.Value {
	list := []impl.Value{{}}
	for _, n := range []int{math.MinInt, math.MinInt + 1, -1 << 32, -10, -9, -2, -1, 0, 1, 2, 3, 9, 10, 1 << 32, math.MaxInt - 1, math.MaxInt} {
		list = append(list, value(1, n, ""))
	}
	for _, s := range []string{"", "\x00", "\x00\x00", "\n", " ", "'", "''", "-1", "0", "1", "10", "9", "A", "FALSE", "NULL", "TRUE", "Z", "a", "a\x00", "a'", "aA", "aa", "ab", "b", "x", long(199), long(200), "xy", "z", "\x7f", "\x80", "\xc3", "\xc3\xa9", "\xff", "\xff\xff"} {
		list = append(list, value(2, 0, s))
	}
	return append(list, value(3, 0, ""), value(3, 1, ""))
}

// invalidValues lists values that break one condition of ValueOk or several.
func invalidValues() []impl.Value {
	var list []impl.Value
	for _, kind := range []int{-1, -2, -3, 4, 5, 6, 7, 9, 255, 256, 257, 258, 259, 1 << 32, 1<<32 + 2, math.MinInt, math.MinInt + 1, math.MaxInt, math.MaxInt - 1} {
		list = append(list, value(kind, 0, ""), value(kind, 1, ""), value(kind, 0, "a"))
	}
	for _, n := range []int{1, -1, 2, 3, 256, 1 << 32, math.MinInt, math.MaxInt} {
		list = append(list, value(0, n, ""), value(2, n, ""), value(2, n, "a"), value(0, n, "a"))
	}
	for _, n := range []int{2, -1, 3, -2, 255, 256, 257, 1 << 32, 1<<32 + 1, math.MinInt, math.MinInt + 1, math.MaxInt} {
		list = append(list, value(3, n, ""))
	}
	for _, s := range []string{"a", "\x00", " ", "0", "1", "TRUE", "NULL", "\xff", long(200), long(201)} {
		list = append(list, value(0, 0, s), value(1, 0, s), value(1, 1, s), value(1, math.MinInt, s), value(3, 0, s), value(3, 1, s))
	}
	for _, size := range []int{201, 202, 255, 256, 257, 400, 456, 1000, 65536, 65537} {
		list = append(list, value(2, 0, long(size)), value(2, 1, long(size)))
	}
	return append(list, value(2, 0, strings.Repeat("é", 101)), value(2, 0, strings.Repeat("'", 201)))
}

func TestValueConstants(t *testing.T) {
	if impl.MaxLong != 200 {
		t.Errorf("MaxLong is %d", impl.MaxLong)
	}
	if list := []int{impl.VlNull, impl.VlInt, impl.VlText, impl.VlBool}; !slices.Equal(list, []int{0, 1, 2, 3}) {
		t.Errorf("the kinds of values are %v", list)
	}
}

func TestValueOk(t *testing.T) {
	for _, v := range validValues() {
		if !impl.ValueOk(v) {
			t.Errorf("ValueOk(%#v) = false", v)
		}
	}
	for _, v := range invalidValues() {
		if impl.ValueOk(v) {
			t.Errorf("ValueOk(%#v) = true", v)
		}
	}
}

func TestValueOkAtEveryInteger(t *testing.T) {
	for _, n := range edgeInts() {
		for kind, want := range []bool{n == 0, true, n == 0, n == 0 || n == 1} {
			if got := impl.ValueOk(value(kind, n, "")); got != want {
				t.Errorf("ValueOk at the kind %d and the number %d is %v", kind, n, got)
			}
		}
		if kind := n; kind < 0 || kind > 3 {
			if impl.ValueOk(value(kind, 0, "")) {
				t.Errorf("ValueOk at the kind %d is true", kind)
			}
		}
	}
}

func TestValueOkAtEverySize(t *testing.T) {
	for size := range 600 {
		for kind, want := range []bool{size == 0, size == 0, size <= 200, size == 0} {
			if got := impl.ValueOk(value(kind, 0, long(size))); got != want {
				t.Errorf("ValueOk at the kind %d and a text of %d bytes is %v", kind, size, got)
			}
		}
	}
	for b := range 256 {
		if s := stringOfBytes(byte(b)); !impl.ValueOk(value(2, 0, strings.Repeat(s, 200))) || impl.ValueOk(value(2, 0, strings.Repeat(s, 201))) {
			t.Errorf("ValueOk at texts of the byte %d", b)
		}
	}
	// The limit counts bytes and not characters.
	if !impl.ValueOk(value(2, 0, strings.Repeat("é", 100))) || impl.ValueOk(value(2, 0, strings.Repeat("é", 100)+"x")) {
		t.Error("ValueOk at texts of characters of two bytes")
	}
}

func TestIntValue(t *testing.T) {
	for _, n := range edgeInts() {
		if got := impl.IntValue(n); got != value(1, n, "") || !impl.ValueOk(got) {
			t.Errorf("IntValue(%d) = %#v", n, got)
		}
	}
}

func TestTextValue(t *testing.T) {
	for size := range 600 {
		if got := impl.TextValue(long(size)); got != value(2, 0, long(size)) || impl.ValueOk(got) != (size <= 200) {
			t.Errorf("TextValue at %d bytes is %#v", size, got)
		}
	}
	for _, s := range []string{"", "a", "'", "NULL", "1", "\x00\xff", long(1 << 20)} {
		if got := impl.TextValue(s); got != value(2, 0, s) {
			t.Errorf("TextValue at %d bytes is a value of kind %d with the number %d and %d bytes", len(s), got.Kind, got.Num, len(got.Text))
		}
	}
}

func TestBoolValue(t *testing.T) {
	if got := impl.BoolValue(true); got != value(3, 1, "") || !impl.ValueOk(got) {
		t.Errorf("BoolValue(true) = %#v", got)
	}
	if got := impl.BoolValue(false); got != value(3, 0, "") || !impl.ValueOk(got) {
		t.Errorf("BoolValue(false) = %#v", got)
	}
}

// checkOrder checks Order at a and b in both directions.
func checkOrder(t *testing.T, a, b impl.Value, want int) {
	t.Helper()
	if got := impl.Order(a, b); got != want {
		t.Errorf("Order(%#v, %#v) = %d, want %d", a, b, got, want)
	}
	if got := impl.Order(b, a); got != -want {
		t.Errorf("Order(%#v, %#v) = %d, want %d", b, a, got, -want)
	}
}

func TestOrderOfValues(t *testing.T) {
	for _, c := range []struct{ less, greater impl.Value }{
		// kinds, whatever the number and the text are
		{value(0, 0, ""), value(1, math.MinInt, "")},
		{value(0, 0, ""), value(2, 0, "")},
		{value(0, 0, ""), value(3, 0, "")},
		{value(1, math.MaxInt, ""), value(2, 0, "")},
		{value(1, 1, ""), value(3, 0, "")},
		{value(1, 0, ""), value(3, 0, "")},
		{value(1, 1, ""), value(2, 0, "1")},
		{value(2, 0, "\xff"), value(3, 0, "")},
		{value(2, 0, long(200)), value(3, 1, "")},
		// numbers
		{value(1, 1, ""), value(1, 2, "")},
		{value(1, 9, ""), value(1, 10, "")},
		{value(1, -1, ""), value(1, 0, "")},
		{value(1, -2, ""), value(1, -1, "")},
		{value(1, -10, ""), value(1, -9, "")},
		{value(1, math.MinInt, ""), value(1, math.MaxInt, "")},
		{value(1, math.MinInt, ""), value(1, 1, "")},
		{value(1, -2, ""), value(1, math.MaxInt, "")},
		{value(1, math.MinInt, ""), value(1, math.MinInt+1, "")},
		{value(1, math.MaxInt-1, ""), value(1, math.MaxInt, "")},
		{value(1, 0, ""), value(1, 1<<32, "")},
		{value(3, 0, ""), value(3, 1, "")},
		// texts
		{value(2, 0, ""), value(2, 0, "\x00")},
		{value(2, 0, "a"), value(2, 0, "aa")},
		{value(2, 0, "a"), value(2, 0, "a\x00")},
		{value(2, 0, "ab"), value(2, 0, "b")},
		{value(2, 0, "aab"), value(2, 0, "ab")},
		{value(2, 0, "10"), value(2, 0, "9")},
		{value(2, 0, "B"), value(2, 0, "a")},
		{value(2, 0, "z"), value(2, 0, "\x80")},
		{value(2, 0, "\x7f"), value(2, 0, "\xff")},
		{value(2, 0, "\x80"), value(2, 0, "\xff")},
		{value(2, 0, "z"), value(2, 0, "é")},
		{value(2, 0, "\xef\xbf\xbd"), value(2, 0, "\xfe")},
		{value(2, 0, long(199)), value(2, 0, long(200))},
		{value(2, 0, long(199)+"a"), value(2, 0, long(199)+"b")},
		// values that are not valid
		{value(-1, 9, "z"), value(0, 0, "")},
		{value(3, 1, ""), value(4, 0, "")},
		{value(math.MinInt, 0, ""), value(math.MaxInt, 0, "")},
		{value(math.MinInt, 0, ""), value(1, 0, "")},
		{value(0, 0, "z"), value(0, 1, "a")},
		{value(1, 0, "z"), value(1, 1, "a")},
		{value(1, 5, "a"), value(1, 5, "b")},
		{value(1, 5, ""), value(1, 5, "a")},
		{value(2, 0, "z"), value(2, 1, "a")},
		{value(2, -1, "z"), value(2, 0, "a")},
		{value(3, 1, ""), value(3, 2, "")},
		{value(3, -1, ""), value(3, 0, "")},
		{value(3, 1, ""), value(3, 1, "a")},
		{value(9, 7, "a"), value(9, 7, "ab")},
		{value(2, 0, long(200)), value(2, 0, long(201))},
		{value(2, 0, long(300)), value(2, 0, long(300)+"\x00")},
	} {
		checkOrder(t, c.less, c.greater, -1)
		checkOrder(t, c.less, c.less, 0)
		checkOrder(t, c.greater, c.greater, 0)
	}
}

func TestOrderAtKinds(t *testing.T) {
	kinds := []int{math.MinInt, -1, 0, 1, 2, 3, 4, 255, math.MaxInt}
	for i, a := range kinds {
		for _, b := range kinds[i+1:] {
			for _, n := range []int{0, 1, -1, math.MinInt, math.MaxInt} {
				for _, s := range []string{"", "a", "\xff"} {
					checkOrder(t, value(a, n, s), value(b, 0, ""), -1)
					checkOrder(t, value(a, 0, ""), value(b, n, s), -1)
					checkOrder(t, value(a, n, s), value(b, -n, s), -1)
				}
			}
		}
	}
}

// orderByRules compares like Order, over lists of numbers and of bytes.
func orderByRules(a, b impl.Value) int {
	if order := slices.Compare([]int{a.Kind, a.Num}, []int{b.Kind, b.Num}); order != 0 {
		return order
	}
	return bytes.Compare([]byte(a.Text), []byte(b.Text))
}

func TestOrderIsTotal(t *testing.T) {
	valid := validValues()
	for i, a := range valid {
		for j, b := range valid {
			if got, want := impl.Order(a, b), slices.Compare([]int{i}, []int{j}); got != want {
				t.Errorf("Order(%v, %v) = %d, want %d", a, b, got, want)
			}
		}
	}
	all := append(valid, invalidValues()...)
	for _, a := range all {
		for _, b := range all {
			got := impl.Order(a, b)
			if got != orderByRules(a, b) || got != -impl.Order(b, a) || (got == 0) != (a == b) {
				t.Errorf("Order(%#v, %#v) = %d, and %d in the other direction", a, b, got, impl.Order(b, a))
			}
		}
	}
}

func TestOrderIsTransitive(t *testing.T) {
	list := []impl.Value{value(-1, 0, ""), value(-1, 1, "a"), value(4, -1, "b"), value(0, 0, "a"), value(2, 1, ""), value(2, -1, "zz"), value(3, 2, ""), value(1, 1, "a"), value(1, 2, "")}
	for i, v := range validValues() {
		if i%2 == 0 {
			list = append(list, v)
		}
	}
	for _, a := range list {
		for _, b := range list {
			for _, c := range list {
				if impl.Order(a, b) <= 0 && impl.Order(b, c) <= 0 && impl.Order(a, c) > 0 {
					t.Errorf("%#v is not after %#v, which is not after %#v, but the first is after the last", a, b, c)
				}
				if impl.Order(a, b) == 0 && impl.Order(a, c) != impl.Order(b, c) {
					t.Errorf("%#v and %#v are equal, but not against %#v", a, b, c)
				}
			}
		}
	}
}

func TestOrderOfShortTexts(t *testing.T) {
	// The texts are visited with each text directly before those that it is a prefix of, which is their order for an ascending alphabet.
	var list []impl.Value
	stringsOver("\x00'a\x7f\x80\xff", 3, func(s string) { list = append(list, impl.TextValue(s)) })
	for i, a := range list {
		for j, b := range list {
			if got, want := impl.Order(a, b), slices.Compare([]int{i}, []int{j}); got != want {
				t.Fatalf("Order(%v, %v) = %d, want %d", a, b, got, want)
			}
		}
	}
}

func TestValueText(t *testing.T) {
	for _, c := range []struct {
		v    impl.Value
		want string
	}{
		{value(0, 0, ""), "NULL"},
		{value(3, 1, ""), "TRUE"},
		{value(3, 0, ""), "FALSE"},
		{value(1, 0, ""), "0"},
		{value(1, 1, ""), "1"},
		{value(1, -1, ""), "-1"},
		{value(1, -10, ""), "-10"},
		{value(1, 120, ""), "120"},
		{value(1, math.MaxInt, ""), "9223372036854775807"},
		{value(1, math.MinInt, ""), "-9223372036854775808"},
		{value(1, math.MinInt+1, ""), "-9223372036854775807"},
		{value(2, 0, ""), "''"},
		{value(2, 0, "a"), "'a'"},
		{value(2, 0, "'"), "''''"},
		{value(2, 0, "''"), "''''''"},
		{value(2, 0, "it's"), "'it''s'"},
		{value(2, 0, "'a'"), "'''a'''"},
		{value(2, 0, "\"a\""), "'\"a\"'"},
		{value(2, 0, "NULL"), "'NULL'"},
		{value(2, 0, "TRUE"), "'TRUE'"},
		{value(2, 0, "-1"), "'-1'"},
		{value(2, 0, "?"), "'?'"},
		{value(2, 0, "\\n"), "'\\n'"},
		{value(2, 0, "\x00\n\xff"), "'\x00\n\xff'"},
		{value(2, 0, "é"), "'é'"},
		{value(2, 0, long(200)), "'" + long(200) + "'"},
		{value(2, 0, strings.Repeat("'", 200)), strings.Repeat("'", 402)},
	} {
		if got := impl.ValueText(c.v); got != c.want {
			t.Errorf("ValueText(%#v) = %q, want %q", c.v, got, c.want)
		}
	}
	for _, v := range invalidValues() {
		if got := impl.ValueText(v); got != "?" {
			t.Errorf("ValueText(%#v) = %q, want \"?\"", v, got)
		}
	}
}

// readValue returns the value whose ValueText is s.
func readValue(s string) (impl.Value, bool) {
	if v, ok := map[string]impl.Value{"NULL": {}, "TRUE": value(3, 1, ""), "FALSE": value(3, 0, "")}[s]; ok {
		return v, true
	}
	if inner, ok := unquoted(s, "'"); ok {
		return value(2, 0, inner), true
	}
	var n int
	count, err := fmt.Sscanf(s+" .", "%d .", &n)
	return value(1, n, ""), count == 1 && err == nil && fmt.Sprint(n) == s
}

func TestValueTextCanBeReadBack(t *testing.T) {
	check := func(v impl.Value) {
		if got, ok := readValue(impl.ValueText(v)); !ok || got != v {
			t.Errorf("ValueText(%#v) = %q", v, impl.ValueText(v))
		}
	}
	for _, v := range validValues() {
		check(v)
	}
	for _, n := range edgeInts() {
		check(impl.IntValue(n))
	}
	stringsOver("'\"NUL?1-", 4, func(s string) { check(impl.TextValue(s)) })
	for b := range 256 {
		check(impl.TextValue(stringOfBytes(byte(b))))
	}
}

// row returns a row of one integer for each digit of s and one string for every other byte.
func row(s string) []impl.Value {
	var list []impl.Value
	for i := range len(s) {
		if s[i] >= '0' && s[i] <= '9' {
			list = append(list, value(1, int(s[i]-'0'), ""))
		} else {
			list = append(list, value(2, 0, s[i:i+1]))
		}
	}
	return list
}

// rowsOf returns the row of each word of s, in which "-" is an empty row.
func rowsOf(s string) [][]impl.Value {
	var list [][]impl.Value
	for _, word := range strings.Fields(s) {
		list = append(list, row(strings.Trim(word, "-")))
	}
	return list
}

func checkOrderRow(t *testing.T, a, b []impl.Value, want int) {
	t.Helper()
	if got := impl.OrderRow(a, b); got != want {
		t.Errorf("OrderRow(%v, %v) = %d, want %d", a, b, got, want)
	}
	if got := impl.OrderRow(b, a); got != -want {
		t.Errorf("OrderRow(%v, %v) = %d, want %d", b, a, got, -want)
	}
}

func TestOrderRow(t *testing.T) {
	for _, c := range []struct{ less, greater string }{
		{"", "0"},
		{"", "a"},
		{"", "123"},
		{"1", "12"},
		{"1", "123"},
		{"12", "123"},
		{"aa", "aaa"},
		{"1", "2"},
		{"123", "223"},
		{"123", "133"},
		{"123", "124"},
		{"abc", "bbc"},
		{"abc", "acc"},
		{"abc", "abd"},
		{"129", "131"},
		{"19", "2"},
		{"199999", "2"},
		{"1a", "b"},
		{"9", "a"},
		{"19", "1a"},
		{"91", "a1"},
		{"1", "aa"},
		{"a", "b1"},
	} {
		checkOrderRow(t, row(c.less), row(c.greater), -1)
		checkOrderRow(t, row(c.less), row(c.less), 0)
		checkOrderRow(t, row(c.greater), row(c.greater), 0)
	}
}

func TestOrderRowAtEmptyRows(t *testing.T) {
	checkOrderRow(t, nil, nil, 0)
	checkOrderRow(t, nil, []impl.Value{}, 0)
	checkOrderRow(t, []impl.Value{}, []impl.Value{}, 0)
	// Even the smallest value makes a row longer.
	for _, v := range append(validValues(), invalidValues()...) {
		checkOrderRow(t, nil, []impl.Value{v}, -1)
		checkOrderRow(t, []impl.Value{}, []impl.Value{v}, -1)
		checkOrderRow(t, []impl.Value{v}, []impl.Value{v, {}}, -1)
		checkOrderRow(t, []impl.Value{v}, []impl.Value{v, value(math.MinInt, math.MinInt, "")}, -1)
	}
}

func TestOrderRowAtPlaces(t *testing.T) {
	values := append(validValues(), value(-1, 0, ""), value(4, 1, "a"), value(3, 2, ""), value(1, 1, "a"), value(2, 0, long(201)))
	for _, a := range values {
		for _, b := range values {
			want := orderByRules(a, b)
			for size := 1; size <= 5; size++ {
				for at := range size {
					x, y := row("73x51"[:size]), row("73x51"[:size])
					x[at], y[at] = a, b
					checkOrderRow(t, x, y, want)
				}
			}
			if want != 0 {
				// A difference decides, whatever follows it.
				checkOrderRow(t, []impl.Value{{}, a, {}}, []impl.Value{{}, b, value(3, 1, "")}, want)
				checkOrderRow(t, []impl.Value{{}, a, value(3, 1, "")}, []impl.Value{{}, b, {}}, want)
				checkOrderRow(t, []impl.Value{a}, []impl.Value{b, {}}, want)
				checkOrderRow(t, []impl.Value{a, {}}, []impl.Value{b}, want)
			}
		}
	}
}

func TestOrderRowIsTotal(t *testing.T) {
	var list [][]impl.Value
	stringsOver("09ab", 3, func(s string) { list = append(list, row(s)) })
	for i, a := range list {
		for j, b := range list {
			if got, want := impl.OrderRow(a, b), slices.Compare([]int{i}, []int{j}); got != want {
				t.Fatalf("OrderRow(%v, %v) = %d, want %d", a, b, got, want)
			}
		}
	}
}

// sameRows reports whether a and b have equal rows in the same order.
func sameRows(a, b [][]impl.Value) bool {
	return slices.EqualFunc(a, b, func(x, y []impl.Value) bool { return slices.Equal(x, y) })
}

// copyRows returns rows of new memory.
func copyRows(list [][]impl.Value) [][]impl.Value {
	var rows [][]impl.Value
	for _, row := range list {
		rows = append(rows, slices.Clone(row))
	}
	return rows
}

func TestSortRows(t *testing.T) {
	for _, c := range []struct{ rows, want string }{
		{"", ""},
		{"1", "1"},
		{"-", "-"},
		{"ab1", "ab1"},
		{"1 2", "1 2"},
		{"2 1", "1 2"},
		{"1 1", "1 1"},
		{"1 2 3 4 5", "1 2 3 4 5"},
		{"5 4 3 2 1", "1 2 3 4 5"},
		{"6 5 4 3 2 1", "1 2 3 4 5 6"},
		{"3 1 2", "1 2 3"},
		{"2 3 1", "1 2 3"},
		{"2 1 2 1 2 1 1", "1 1 1 1 2 2 2"},
		{"7 7 7 7 7", "7 7 7 7 7"},
		{"- -", "- -"},
		{"1 -", "- 1"},
		{"- 1", "- 1"},
		{"1 - a - 0 -", "- - - 0 1 a"},
		{"12 1 123 - 2", "- 1 12 123 2"},
		{"b a 9 ab 90 1a a1 1", "1 1a 9 90 a a1 ab b"},
		{"321 312 231 213 132 123", "123 132 213 231 312 321"},
		{"cba abc cab abb", "abb abc cab cba"},
	} {
		list := rowsOf(c.rows)
		if got := impl.SortRows(list); !sameRows(got, rowsOf(c.want)) {
			t.Errorf("SortRows(%v) = %v, want the rows %s", list, got, c.want)
		}
		if !sameRows(list, rowsOf(c.rows)) {
			t.Errorf("SortRows changed the rows %s to %v", c.rows, list)
		}
	}
}

func TestSortRowsOfKinds(t *testing.T) {
	var want [][]impl.Value
	for _, v := range append([]impl.Value{value(math.MinInt, 1, "z"), value(-1, 0, "")}, append(validValues(), value(3, 2, ""), value(4, 0, ""))...) {
		want = append(want, []impl.Value{v}, []impl.Value{v, {}}, []impl.Value{v, v})
	}
	// Which of the two longer rows comes first depends on the value.
	slices.SortStableFunc(want, func(a, b []impl.Value) int { return slices.CompareFunc(a, b, orderByRules) })
	backward := copyRows(want)
	slices.Reverse(backward)
	for _, list := range [][][]impl.Value{want, backward} {
		if got := impl.SortRows(list); !sameRows(got, want) {
			t.Errorf("SortRows(%v) = %v", list, got)
		}
	}
	random := rand.New(rand.NewSource(5))
	for range 50 {
		list := copyRows(want)
		random.Shuffle(len(list), func(i, j int) { list[i], list[j] = list[j], list[i] })
		if got := impl.SortRows(list); !sameRows(got, want) {
			t.Errorf("SortRows(%v) = %v", list, got)
		}
	}
}

// checkSorted checks that SortRows returns the rows of list in the order of OrderRow and leaves list as it is.
func checkSorted(t *testing.T, list [][]impl.Value) {
	t.Helper()
	before := copyRows(list)
	got := impl.SortRows(list)
	if !sameRows(list, before) {
		t.Fatalf("SortRows changed %v to %v", before, list)
	}
	for i := 1; i < len(got); i++ {
		if impl.OrderRow(got[i-1], got[i]) > 0 {
			t.Fatalf("SortRows(%v) = %v, which is not in order at %d", list, got, i)
		}
	}
	count := map[string]int{}
	for _, row := range list {
		count[fmt.Sprintf("%#v", row)]++
	}
	for _, row := range got {
		count[fmt.Sprintf("%#v", row)]--
	}
	for row, left := range count {
		if left != 0 {
			t.Fatalf("SortRows(%v) = %v, which has other rows: %d are missing of %s", list, got, left, row)
		}
	}
}

func TestSortRowsOfShortLists(t *testing.T) {
	kinds := [][]impl.Value{{}, row("1"), row("12"), row("a")}
	stringsOver("0123", 6, func(s string) {
		list := make([][]impl.Value, len(s))
		for i := range len(s) {
			list[i] = kinds[s[i]-'0']
		}
		checkSorted(t, list)
	})
}

func TestSortRowsOfLongLists(t *testing.T) {
	random := rand.New(rand.NewSource(55))
	for size := range 130 {
		list := make([][]impl.Value, size)
		for i := range list {
			list[i] = make([]impl.Value, random.Intn(4))
			for j := range list[i] {
				list[i][j] = value(random.Intn(6)-1, random.Intn(3)-1, "abc"[:random.Intn(3)])
			}
		}
		checkSorted(t, list)
	}
	const many = 20000
	var want, backward [][]impl.Value
	for n := range many {
		want = append(want, []impl.Value{value(1, n/2, "")})
		backward = append(backward, []impl.Value{value(1, (many-1-n)/2, "")})
	}
	if !sameRows(impl.SortRows(want), want) || !sameRows(impl.SortRows(backward), want) {
		t.Errorf("SortRows of %d rows, in order or in reverse", many)
	}
}

func TestSortRowsIsStable(t *testing.T) {
	// Equal rows can be told apart only by where their texts lie.
	places := map[*byte]int{}
	var list [][]impl.Value
	for i := range 60 {
		s := strings.Clone([]string{"b", "a", "c"}[i%3])
		places[unsafe.StringData(s)] = i
		list = append(list, []impl.Value{value(2, 0, s)})
	}
	got := impl.SortRows(list)
	for i := 1; i < len(got); i++ {
		a, b := got[i-1][0].Text, got[i][0].Text
		if a == b && places[unsafe.StringData(a)] >= places[unsafe.StringData(b)] {
			t.Errorf("SortRows exchanges equal rows at %d", i)
		}
	}
}

func TestSortRowsChangesNothing(t *testing.T) {
	// The rows are parts of one array with values between them, and the list has rows after its end.
	all := row("2x1y3zw")
	list := [][]impl.Value{all[0:1], all[2:3], all[4:5], all[0:1], all[6:6], row("0"), row("8")}
	before, beforeRows := slices.Clone(all), copyRows(list)
	got := impl.SortRows(list[:5])
	if want := rowsOf("- 1 2 2 3"); !sameRows(got, want) {
		t.Fatalf("SortRows(%v) = %v", list[:5], got)
	}
	if !slices.Equal(all, before) || !sameRows(list, beforeRows) {
		t.Errorf("SortRows changed its argument to %v or the values around it to %v", list, all)
	}
	for i := range got {
		got[i] = append(got[i], value(1, 99, ""))
		got[i][0] = value(2, 0, "changed")
	}
	got = append(got, row("77"))
	slices.Reverse(got)
	if !slices.Equal(all, before) || !sameRows(list, beforeRows) {
		t.Errorf("changing the result of SortRows changed its argument to %v or the values around it to %v", list, all)
	}
}

func TestSortRowsAreNew(t *testing.T) {
	shared := row("123")
	for _, list := range [][][]impl.Value{{shared}, {shared, shared}, {shared, shared, shared[:2], shared[:1], shared[:0]}} {
		got := impl.SortRows(list)
		want := copyRows(got)
		for i := range got {
			// What is written into one row, or after its end, must not be seen in another one or in the argument.
			whole := got[i][:cap(got[i])]
			for j := range whole {
				whole[j] = value(2, 0, "changed")
			}
			got[i] = nil
			for j := i + 1; j < len(got); j++ {
				if !slices.Equal(got[j], want[j]) {
					t.Errorf("changing the row %d of a result changed the row %d to %v", i, j, got[j])
				}
			}
		}
		if !slices.Equal(shared, row("123")) || len(list[0]) != 3 {
			t.Errorf("changing the result of SortRows changed its argument to %v", list)
		}
		if again := impl.SortRows(list); !sameRows(again, want) {
			t.Errorf("two calls of SortRows return %v and %v", want, again)
		}
	}
}

func TestSortRowsOfNoRows(t *testing.T) {
	if got := impl.SortRows(nil); len(got) != 0 {
		t.Errorf("SortRows(nil) = %v", got)
	}
	list := rowsOf("2 1")
	if got := impl.SortRows(list[:0]); len(got) != 0 {
		t.Errorf("SortRows of no rows = %v", got)
	} else if _ = append(got, row("7")); !sameRows(list, rowsOf("2 1")) {
		t.Errorf("appending to the result of SortRows changed its argument to %v", list)
	}
	for _, list := range [][][]impl.Value{{nil}, {{}}, {nil, {}}, {{}, nil, {}}} {
		got := impl.SortRows(list)
		if len(got) != len(list) || slices.ContainsFunc(got, func(row []impl.Value) bool { return len(row) != 0 }) {
			t.Errorf("SortRows(%v) = %v", list, got)
		}
	}
}

func TestOrderRowChangesNothing(t *testing.T) {
	all := row("1234")
	a, b := all[:2], slices.Clone(all)[:2]
	if impl.OrderRow(a, b) != 0 || impl.OrderRow(a, all) != -1 || impl.OrderRow(all[1:], a) != 1 {
		t.Error("OrderRow of parts of one array")
	}
	if !slices.Equal(all, row("1234")) || !slices.Equal(b[:4], row("1234")) {
		t.Errorf("OrderRow changed its arguments to %v and %v", all, b[:4])
	}
}
