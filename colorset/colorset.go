// Package colorset is layer 39: color sets. See shared/doc/39-colorset.md.
package colorset

import (
	"slices"
	"strconv"
	"strings"

	"petrinet/api"
	"petrinet/names"
)

// separator stands between the parts of the text of a multiset.
const separator = " + "

// Name reports whether s is a name.
func Name(s string) bool {
	return names.Valid(s)
}

// Check returns the first error of a color set, or OK.
func Check(c api.ColorSet) api.Errno {
	if !Name(c.Name) {
		return api.ErrName
	}
	if len(c.Values) < 1 || len(c.Values) > api.MaxColors {
		return api.ErrSize
	}
	seen := map[string]bool{}
	for _, value := range c.Values {
		if !Name(value) {
			return api.ErrName
		}
		if seen[value] {
			return api.ErrTwice
		}
		seen[value] = true
	}
	return api.OK
}

// Find returns the index of the first value that equals value, or -1.
func Find(c api.ColorSet, value string) int {
	if i, ok := indices(c)[value]; ok {
		return i
	}
	return -1
}

// indices maps each value to the index of its first occurrence.
func indices(c api.ColorSet) map[string]int {
	first := map[string]int{}
	for i, value := range c.Values {
		if _, ok := first[value]; !ok {
			first[value] = i
		}
	}
	return first
}

// Shift returns the index that lies by places after i, cyclically; -1 if i is not an index.
func Shift(c api.ColorSet, i, by int) int {
	k := len(c.Values)
	if i < 0 || i >= k {
		return -1
	}
	// by is reduced first, so that the sum cannot overflow.
	return (i + (by%k+k)%k) % k
}

// isMultiset reports whether all numbers are from 0 to MaxTokens.
func isMultiset(a []int) bool {
	for _, n := range a {
		if n < 0 || n > api.MaxTokens {
			return false
		}
	}
	return true
}

// Add returns the element-wise sum; an empty slice if there is none.
func Add(a, b []int) []int {
	return sum(a, b)
}

func sum(first []int, more ...[]int) []int {
	if !isMultiset(first) {
		return nil
	}
	total := slices.Clone(first)
	for _, a := range more {
		if len(a) != len(total) || !isMultiset(a) {
			return nil
		}
		for i, n := range a {
			total[i] += n
		}
		if !isMultiset(total) {
			return nil
		}
	}
	return total
}

// Leq reports whether both are multisets of the same length and no element of a is greater than that of b.
func Leq(a, b []int) bool {
	if len(a) != len(b) || !isMultiset(a) || !isMultiset(b) {
		return false
	}
	for i := range a {
		if a[i] > b[i] {
			return false
		}
	}
	return true
}

// Sub returns a - b; an empty slice if Leq(b, a) is false.
func Sub(a, b []int) []int {
	if !Leq(b, a) {
		return nil
	}
	rest := make([]int, len(a))
	for i := range a {
		rest[i] = a[i] - b[i]
	}
	return rest
}

// Scale returns k times a; an empty slice if there is none.
func Scale(a []int, k int) []int {
	if k < 0 || !isMultiset(a) {
		return nil
	}
	product := make([]int, len(a))
	for i, n := range a {
		// Dividing instead of multiplying keeps a great k from overflowing.
		if n > 0 && k > api.MaxTokens/n {
			return nil
		}
		product[i] = n * k
	}
	return product
}

// Text returns the multiset as a sum of numbered values; the empty string if Check has an error or a is not a multiset over the color set.
func Text(c api.ColorSet, a []int) string {
	if Check(c) != api.OK || len(a) != len(c.Values) || !isMultiset(a) {
		return ""
	}
	var parts []string
	for i, n := range a {
		if n > 0 {
			parts = append(parts, strconv.Itoa(n)+"'"+c.Values[i])
		}
	}
	if len(parts) == 0 {
		return "0"
	}
	return strings.Join(parts, separator)
}

// Parse returns the multiset over the color set whose Text is s; the error of Check, or ErrSyntax if there is none.
func Parse(c api.ColorSet, s string) ([]int, api.Errno) {
	if e := Check(c); e != api.OK {
		return nil, e
	}
	a := make([]int, len(c.Values))
	if s == "0" {
		return a, api.OK
	}
	index := indices(c)
	for part := range strings.SplitSeq(s, separator) {
		numeral, value, _ := strings.Cut(part, "'")
		n, err := strconv.Atoi(numeral)
		i, ok := index[value]
		if err != nil || !ok {
			return nil, api.ErrSyntax
		}
		a[i] = n
	}
	// Text decides about order, repetition, zeros and the form of numerals.
	if Text(c, a) != s {
		return nil, api.ErrSyntax
	}
	return a, api.OK
}
