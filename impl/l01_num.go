package impl

import (
	"math"
	"strconv"
	"strings"
)

// badNumber is what the readers of this file panic with. Number and GetVar recover it.
const badNumber = "not a number"

// maxVarBytes is the length of the longest encoding: 64 bits in groups of seven.
const maxVarBytes = 10

func Digits(n int) string { return strconv.Itoa(n) }

func Number(s string) (n int, ok bool) {
	defer func() {
		if recover() != nil {
			n, ok = 0, false
		}
	}()
	return readNumber(s), true
}

func readNumber(s string) int {
	if s == "" || (s[0] == '0' && s != "0") {
		panic(badNumber)
	}
	n := 0
	for i := range len(s) {
		n = withDigit(n, s[i])
	}
	return n
}

func withDigit(n int, b byte) int {
	if b < '0' || b > '9' {
		panic(badNumber)
	}
	digit := int(b - '0')
	if n > (math.MaxInt-digit)/10 {
		panic(badNumber)
	}
	return n*10 + digit
}

func Zig(n int) uint64 {
	if n >= 0 {
		return 2 * uint64(n)
	}
	// -(n+1) instead of -n: the smallest integer has no negation.
	return 2*uint64(-(n+1)) + 1
}

func Unzig(u uint64) int {
	half := int(u / 2)
	if u%2 == 0 {
		return half
	}
	return -half - 1
}

func PutVar(u uint64) string {
	var list []byte
	for u >= 128 {
		list = append(list, byte(u)|128)
		u >>= 7
	}
	return string(append(list, byte(u)))
}

func GetVar(s string, at int) (u uint64, next int, ok bool) {
	defer func() {
		if recover() != nil {
			u, next, ok = 0, 0, false
		}
	}()
	u, next = readVar(s, at)
	return u, next, true
}

func readVar(s string, at int) (uint64, int) {
	if at < 0 || at >= len(s) {
		panic(badNumber)
	}
	u := uint64(0)
	for i := range min(len(s)-at, maxVarBytes) {
		b := s[at+i]
		u |= shifted(uint64(b&127), 7*i)
		if b >= 128 {
			continue
		}
		// An empty last group adds nothing: the encoding without it is shorter.
		if b == 0 && i > 0 {
			panic(badNumber)
		}
		return u, at + i + 1
	}
	panic(badNumber)
}

func shifted(group uint64, by int) uint64 {
	if group<<by>>by != group {
		panic(badNumber)
	}
	return group << by
}

func Crc(s string) int {
	sum := uint32(4294967295)
	for i := range len(s) {
		sum = withByte(sum, s[i])
	}
	return int(sum ^ 4294967295)
}

func withByte(sum uint32, b byte) uint32 {
	sum ^= uint32(b)
	for range 8 {
		out := sum & 1
		sum >>= 1
		if out == 1 {
			sum ^= 3988292384
		}
	}
	return sum
}

func Parts(s string, by byte) []string {
	// string(by) would be the UTF-8 text of a rune, which is two bytes from 128 on.
	return strings.Split(s, string([]byte{by}))
}
