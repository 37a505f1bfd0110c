// Package marking is layer 4: markings. See shared/doc/04-marking.md.
package marking

import (
	"cmp"
	"strconv"
	"strings"

	"petrinet/api"
)

// longestText is the length of the longest text of a valid marking: MaxTokens has 7 digits.
const longestText = api.MaxPlaces*(7+1) - 1

// Valid reports whether m has n elements, each from 0 to MaxTokens.
func Valid(m []int, n int) bool {
	if len(m) != n {
		return false
	}
	for i := range n {
		if m[i] < 0 || m[i] > api.MaxTokens {
			return false
		}
	}
	return true
}

// Leq reports whether both have the same length and no element of a is greater than that of b.
func Leq(a, b []int) bool {
	if len(a) != len(b) {
		return false
	}
	for i := range len(a) {
		if a[i] > b[i] {
			return false
		}
	}
	return true
}

// Max returns the element-wise maximum; an empty slice if the lengths differ.
func Max(a, b []int) []int {
	return combine(a, b, func(x, y int) int { return max(x, y) })
}

// Min returns the element-wise minimum; an empty slice if the lengths differ.
func Min(a, b []int) []int {
	return combine(a, b, func(x, y int) int { return min(x, y) })
}

func combine(a, b []int, choose func(x, y int) int) []int {
	if len(a) != len(b) {
		return nil
	}
	m := make([]int, len(a))
	for i := range len(a) {
		m[i] = choose(a[i], b[i])
	}
	return m
}

// Total returns the sum of all elements; -1 if m is not valid or has more than MaxPlaces elements.
func Total(m []int) int {
	if len(m) > api.MaxPlaces || !Valid(m, len(m)) {
		return -1
	}
	sum := 0
	for i := range len(m) {
		sum += m[i]
	}
	return sum
}

// Compare returns -1, 0 or 1 by lexicographic order, where a proper prefix is less.
func Compare(a, b []int) int {
	for i := range min(len(a), len(b)) {
		if c := cmp.Compare(a[i], b[i]); c != 0 {
			return c
		}
	}
	return cmp.Compare(len(a), len(b))
}

// Text returns the elements in decimal, separated by commas; "-" for an empty marking.
func Text(m []int) string {
	if len(m) == 0 {
		return "-"
	}
	return listed(m...)
}

func listed(numbers ...int) string {
	var text strings.Builder
	for i := range len(numbers) {
		if i > 0 {
			text.WriteByte(',')
		}
		text.WriteString(strconv.Itoa(numbers[i]))
	}
	return text.String()
}

// Parse returns the valid marking whose Text is s, with at most MaxPlaces elements; ErrSyntax if there is none.
func Parse(s string) ([]int, api.Errno) {
	if s == "-" {
		return nil, api.OK
	}
	if len(s) > longestText {
		return nil, api.ErrSyntax
	}
	var m []int
	for numeral := range strings.SplitSeq(s, ",") {
		n, err := strconv.Atoi(numeral)
		if err != nil {
			return nil, api.ErrSyntax
		}
		m = append(m, n)
	}
	// Only the numerals that Text writes are permitted: no leading zeros, no plus sign.
	if Total(m) < 0 || Text(m) != s {
		return nil, api.ErrSyntax
	}
	return m, api.OK
}

// Unit returns the marking of n places with one token on place i; an empty slice if there is none.
func Unit(n, i int) []int {
	if n < 1 || n > api.MaxPlaces || i < 0 || i >= n {
		return nil
	}
	m := make([]int, n)
	m[i] = 1
	return m
}
