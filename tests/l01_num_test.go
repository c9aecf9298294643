package tests

import (
	"encoding/binary"
	"hash/crc32"
	"math"
	"regexp"
	"slices"
	"strings"
	"testing"

	"loop.example/g00495/impl"
)

// edgeInts are the integers around every power of two, of both signs.
func edgeInts() []int {
	list := []int{0, math.MaxInt, math.MinInt}
	for k := range 63 {
		for d := -1; d <= 1; d++ {
			list = append(list, 1<<k+d, -(1<<k + d))
		}
	}
	return list
}

// edgeWords are the unsigned integers around every power of two.
func edgeWords() []uint64 {
	list := []uint64{0, math.MaxUint64}
	for k := range 64 {
		u := uint64(1) << k
		list = append(list, u-1, u, u+1)
	}
	return list
}

// stringsOver calls visit with every string of at most size bytes of alphabet.
func stringsOver(alphabet string, size int, visit func(string)) {
	var grow func(s string)
	grow = func(s string) {
		visit(s)
		if len(s) == size {
			return
		}
		for i := range len(alphabet) {
			grow(s + alphabet[i:i+1])
		}
	}
	grow("")
}

func TestDigits(t *testing.T) {
	for _, c := range []struct {
		n    int
		want string
	}{
		{0, "0"},
		{7, "7"},
		{-7, "-7"},
		{10, "10"},
		{-100, "-100"},
		{1234567890, "1234567890"},
		{9223372036854775807, "9223372036854775807"},
		{-9223372036854775807, "-9223372036854775807"},
		{-9223372036854775808, "-9223372036854775808"},
	} {
		if got := impl.Digits(c.n); got != c.want {
			t.Errorf("Digits(%d) = %q, want %q", c.n, got, c.want)
		}
	}
}

func TestNumberAccepts(t *testing.T) {
	for _, c := range []struct {
		s    string
		want int
	}{
		{"0", 0},
		{"9", 9},
		{"10", 10},
		{"42", 42},
		{"1000000000000000000", 1000000000000000000},
		{"9223372036854775799", 9223372036854775799},
		{"9223372036854775806", 9223372036854775806},
		{"9223372036854775807", 9223372036854775807},
	} {
		n, ok := impl.Number(c.s)
		if n != c.want || !ok {
			t.Errorf("Number(%q) = %d, %v, want %d, true", c.s, n, ok, c.want)
		}
	}
}

func TestNumberRejects(t *testing.T) {
	for _, s := range []string{
		"", "-", "+", "-0", "+0", "-1", "+1", "00", "01", "007", "0000000000000000000000",
		"a", "1a", "a1", "1 ", " 1", "1\n", "\x00", "1\x00", "0x1", "1e3", "1_000", "1.0", "1/", "1:", "/", ":",
		"\xb1", "１", "9223372036854775808", "9223372036854775809", "9223372036854775810", "9223372036854775817",
		"9223372036854775900", "10000000000000000000", "18446744073709551615", "18446744073709551616", "18446744073709551617",
		"-9223372036854775808", "99999999999999999999", "09223372036854775807", strings.Repeat("1", 1000),
	} {
		if n, ok := impl.Number(s); n != 0 || ok {
			t.Errorf("Number(%q) = %d, %v, want 0, false", s, n, ok)
		}
	}
}

func TestNumberInvertsDigits(t *testing.T) {
	for _, n := range edgeInts() {
		got, ok := impl.Number(impl.Digits(n))
		if ok != (n >= 0) || got != max(n, 0) {
			t.Errorf("Number(Digits(%d)) = %d, %v", n, got, ok)
		}
	}
}

func TestNumberAcceptsNothingElse(t *testing.T) {
	shape := regexp.MustCompile(`^(0|[1-9][0-9]*)\z`)
	stringsOver("0189+- /:a\n", 4, func(s string) {
		n, ok := impl.Number(s)
		if ok != shape.MatchString(s) {
			t.Errorf("Number(%q) = %d, %v", s, n, ok)
		}
		if ok && impl.Digits(n) != s || !ok && n != 0 {
			t.Errorf("Number(%q) = %d, %v, whose digits are %q", s, n, ok, impl.Digits(n))
		}
	})
}

func TestZig(t *testing.T) {
	for _, c := range []struct {
		n    int
		want uint64
	}{
		{0, 0},
		{-1, 1},
		{1, 2},
		{-2, 3},
		{2, 4},
		{100, 200},
		{-100, 199},
		{9223372036854775806, 18446744073709551612},
		{-9223372036854775807, 18446744073709551613},
		{9223372036854775807, 18446744073709551614},
		{-9223372036854775808, 18446744073709551615},
	} {
		if got := impl.Zig(c.n); got != c.want {
			t.Errorf("Zig(%d) = %d, want %d", c.n, got, c.want)
		}
		if got := impl.Unzig(c.want); got != c.n {
			t.Errorf("Unzig(%d) = %d, want %d", c.want, got, c.n)
		}
	}
}

func TestZigInverse(t *testing.T) {
	for _, n := range edgeInts() {
		if got := impl.Unzig(impl.Zig(n)); got != n {
			t.Errorf("Unzig(Zig(%d)) = %d", n, got)
		}
	}
	for _, u := range edgeWords() {
		if got := impl.Zig(impl.Unzig(u)); got != u {
			t.Errorf("Zig(Unzig(%d)) = %d", u, got)
		}
	}
}

func TestPutVar(t *testing.T) {
	for _, c := range []struct {
		u    uint64
		want string
	}{
		{0, "\x00"},
		{1, "\x01"},
		{127, "\x7f"},
		{128, "\x80\x01"},
		{129, "\x81\x01"},
		{300, "\xac\x02"},
		{16383, "\xff\x7f"},
		{16384, "\x80\x80\x01"},
		{9223372036854775807, "\xff\xff\xff\xff\xff\xff\xff\xff\x7f"},
		{9223372036854775808, "\x80\x80\x80\x80\x80\x80\x80\x80\x80\x01"},
		{18446744073709551615, "\xff\xff\xff\xff\xff\xff\xff\xff\xff\x01"},
	} {
		if got := impl.PutVar(c.u); got != c.want {
			t.Errorf("PutVar(%d) = %q, want %q", c.u, got, c.want)
		}
	}
	for _, u := range edgeWords() {
		if got, want := impl.PutVar(u), string(binary.AppendUvarint(nil, u)); got != want {
			t.Errorf("PutVar(%d) = %q, want %q", u, got, want)
		}
	}
}

func TestGetVarInvertsPutVar(t *testing.T) {
	for _, u := range edgeWords() {
		s := impl.PutVar(u)
		for _, before := range []string{"", "x", "\x80\x80", "\xff\x01\x00"} {
			for _, after := range []string{"", "\x00", "\x01", "\xff", "\x80\x80"} {
				got, next, ok := impl.GetVar(before+s+after, len(before))
				if got != u || next != len(before)+len(s) || !ok {
					t.Errorf("GetVar(%q, %d) = %d, %d, %v, want %d", before+s+after, len(before), got, next, ok, u)
				}
			}
		}
	}
}

// rejectsVar checks that no encoding starts at offset at of s.
func rejectsVar(t *testing.T, s string, at int) {
	t.Helper()
	if u, next, ok := impl.GetVar(s, at); u != 0 || next != 0 || ok {
		t.Errorf("GetVar(%q, %d) = %d, %d, %v, want 0, 0, false", s, at, u, next, ok)
	}
}

func TestGetVarAtEveryOffset(t *testing.T) {
	s := impl.PutVar(0) + impl.PutVar(127) + impl.PutVar(128) + impl.PutVar(300) + impl.PutVar(math.MaxUint64) + "\x80"
	want := []struct {
		u    uint64
		next int
	}{
		{0, 1}, {127, 2}, {128, 4}, {1, 4}, {300, 6}, {2, 6},
		{math.MaxUint64, 16}, {1<<57 - 1, 16}, {1<<50 - 1, 16}, {1<<43 - 1, 16}, {1<<36 - 1, 16},
		{1<<29 - 1, 16}, {1<<22 - 1, 16}, {1<<15 - 1, 16}, {1<<8 - 1, 16}, {1, 16},
	}
	for at, w := range want {
		u, next, ok := impl.GetVar(s, at)
		if u != w.u || next != w.next || !ok {
			t.Errorf("GetVar(%q, %d) = %d, %d, %v, want %d, %d, true", s, at, u, next, ok, w.u, w.next)
		}
	}
	for _, at := range []int{-1, -2, -len(s), math.MinInt, len(want), len(s), len(s) + 1, len(s) + 100, math.MaxInt} {
		rejectsVar(t, s, at)
	}
}

func TestGetVarCutShort(t *testing.T) {
	rejectsVar(t, "", 0)
	rejectsVar(t, "", -1)
	rejectsVar(t, "", 1)
	for _, u := range edgeWords() {
		s := impl.PutVar(u)
		for size := range len(s) {
			rejectsVar(t, s[:size], 0)
			rejectsVar(t, "\x05"+s[:size], 1)
		}
	}
}

func TestGetVarTooLong(t *testing.T) {
	for _, u := range edgeWords() {
		s := []byte(impl.PutVar(u))
		for len(s) < 12 {
			s[len(s)-1] |= 128
			s = append(s, 0)
			rejectsVar(t, string(s), 0)
			rejectsVar(t, "\x05"+string(s), 1)
		}
	}
}

func TestGetVarTooLarge(t *testing.T) {
	for _, start := range []string{strings.Repeat("\x80", 9), strings.Repeat("\xff", 9), "\x81" + strings.Repeat("\x80", 8)} {
		for last := range 256 {
			s := start + string([]byte{byte(last)})
			if last != 1 {
				rejectsVar(t, s, 0)
			}
			rejectsVar(t, "\x80"+s, 0)
			rejectsVar(t, s[:9]+"\x81"+s[9:], 0)
		}
	}
	rejectsVar(t, strings.Repeat("\xff", 1000), 0)
	rejectsVar(t, strings.Repeat("\x80", 1000)+"\x01", 0)
}

func TestGetVarAcceptsNothingElse(t *testing.T) {
	stringsOver("\x00\x01\x02\x7f\x80\x81\xff", 5, func(s string) {
		for at := -1; at <= len(s)+1; at++ {
			u, next, ok := impl.GetVar(s, at)
			if ok && s[at:next] != impl.PutVar(u) {
				t.Errorf("GetVar(%q, %d) = %d, %d, whose encoding is %q", s, at, u, next, impl.PutVar(u))
			}
			if !ok && (u != 0 || next != 0) {
				t.Errorf("GetVar(%q, %d) = %d, %d, false", s, at, u, next)
			}
		}
	})
}

func TestCrc(t *testing.T) {
	for _, c := range []struct {
		s    string
		want int
	}{
		{"", 0},
		{"123456789", 3421780262},
		{"\x00", 3523407757},
		{"\xff", 4278190080},
	} {
		if got := impl.Crc(c.s); got != c.want {
			t.Errorf("Crc(%q) = %d, want %d", c.s, got, c.want)
		}
	}
	for i := range 256 {
		s := string([]byte{byte(i)})
		for _, x := range []string{s, s + s, "ab" + s + "c", strings.Repeat(s, 300)} {
			if got, want := impl.Crc(x), int(crc32.ChecksumIEEE([]byte(x))); got != want {
				t.Errorf("Crc(%q) = %d, want %d", x, got, want)
			}
		}
	}
}

func TestParts(t *testing.T) {
	for _, c := range []struct {
		s    string
		by   byte
		want []string
	}{
		{"", ',', []string{""}},
		{"", 0, []string{""}},
		{"abc", ',', []string{"abc"}},
		{"a,b", ',', []string{"a", "b"}},
		{",", ',', []string{"", ""}},
		{",a", ',', []string{"", "a"}},
		{"a,", ',', []string{"a", ""}},
		{",a,", ',', []string{"", "a", ""}},
		{"a,,b", ',', []string{"a", "", "b"}},
		{",,,", ',', []string{"", "", "", ""}},
		{"a;b,c", ';', []string{"a", "b,c"}},
		{"a\nb\n", '\n', []string{"a", "b", ""}},
		{"a\x00b", 0, []string{"a", "b"}},
		{"\xc3\xa9\xff", 0xc3, []string{"", "\xa9\xff"}},
		{"\xc3\xa9\xff", 0xa9, []string{"\xc3", "\xff"}},
		{"\xc3\xa9\xff", 0xe9, []string{"\xc3\xa9\xff"}},
		{"\xff\xff", 0xff, []string{"", "", ""}},
	} {
		if got := impl.Parts(c.s, c.by); !slices.Equal(got, c.want) {
			t.Errorf("Parts(%q, %q) = %q, want %q", c.s, c.by, got, c.want)
		}
	}
}

func TestPartsJoin(t *testing.T) {
	stringsOver("a,\xc3\xff", 5, func(s string) {
		for _, by := range []byte{'a', ',', 0xc3, 0xff, 'z'} {
			sep := string([]byte{by})
			list := impl.Parts(s, by)
			if strings.Join(list, sep) != s || len(list) != strings.Count(s, sep)+1 {
				t.Errorf("Parts(%q, %q) = %q", s, by, list)
			}
			for _, x := range list {
				if strings.Contains(x, sep) {
					t.Errorf("Parts(%q, %q) = %q", s, by, list)
				}
			}
		}
	})
}

func TestPartsAreNew(t *testing.T) {
	first := impl.Parts("a,b", ',')
	first[0] = "changed"
	if second := impl.Parts("a,b", ','); !slices.Equal(second, []string{"a", "b"}) {
		t.Errorf("Parts after a change of an earlier result: %q", second)
	}
}
