// Package eventlog is layer 48: event logs. See shared/doc/48-eventlog.md.
package eventlog

import (
	"iter"
	"maps"
	"slices"
	"strconv"
	"strings"

	"petrinet/api"
	"petrinet/names"
)

// empty is the word for an empty trace.
const empty = "-"

// Name reports whether s is the name of an activity.
func Name(s string) bool {
	return names.Valid(s)
}

// Check returns the first error of a log, with the index of its trace.
func Check(l [][]string) api.Fault {
	if len(l) > api.MaxTraces {
		return api.Fault{Errno: api.ErrSize}
	}
	for i, trace := range l {
		if len(trace) > api.MaxTrace {
			return api.Fault{Errno: api.ErrSize, At: i}
		}
		for _, activity := range trace {
			if !Name(activity) {
				return api.Fault{Errno: api.ErrName, At: i}
			}
		}
	}
	return api.Fault{}
}

// Text returns a line for each trace, or the fault of Check.
func Text(l [][]string) (string, api.Fault) {
	if f := Check(l); f.Errno != api.OK {
		return "", f
	}
	var text strings.Builder
	for _, trace := range l {
		if len(trace) == 0 {
			text.WriteString(empty)
		}
		text.WriteString(strings.Join(trace, " "))
		text.WriteByte('\n')
	}
	return text.String(), api.Fault{}
}

// Parse returns the log whose lines are those of s, or a fault with the number of the line.
func Parse(s string) ([][]string, api.Fault) {
	if len(s) > api.MaxText {
		return nil, api.Fault{Errno: api.ErrSize}
	}
	var l [][]string
	number := 0
	for line := range strings.SplitSeq(s, "\n") {
		number++
		list := slices.Collect(words(line))
		if len(list) == 0 {
			continue
		}
		trace, e := parseTrace(list)
		if e == api.OK && len(l) == api.MaxTraces {
			e = api.ErrSize
		}
		if e != api.OK {
			return nil, api.Fault{Errno: e, At: number}
		}
		l = append(l, trace)
	}
	return l, api.Fault{}
}

// words yields the sequences of bytes between spaces.
func words(line string) iter.Seq[string] {
	return func(yield func(string) bool) {
		for part := range strings.SplitSeq(line, " ") {
			if part != "" && !yield(part) {
				return
			}
		}
	}
}

// parseTrace returns the trace with the words of a line that has some.
func parseTrace(list []string) ([]string, api.Errno) {
	if len(list) == 1 && list[0] == empty {
		return nil, api.OK
	}
	for _, word := range list {
		if !Name(word) {
			return nil, api.ErrSyntax
		}
	}
	if len(list) > api.MaxTrace {
		return nil, api.ErrSize
	}
	return list, api.OK
}

// Activities returns all names in the log, each once, in ascending order.
func Activities(l [][]string) []string {
	return distinct(l, func(trace []string) []string { return trace })
}

// First returns the first activities of the traces that are not empty, each once, in ascending order.
func First(l [][]string) []string {
	return distinct(l, func(trace []string) []string { return trace[:1] })
}

// Last returns the last activities of the traces that are not empty, each once, in ascending order.
func Last(l [][]string) []string {
	return distinct(l, func(trace []string) []string { return trace[len(trace)-1:] })
}

// distinct returns the activities that part selects from the traces that are not empty, each once, in ascending order.
func distinct(l [][]string, part func(trace []string) []string) []string {
	found := map[string]bool{}
	for _, trace := range l {
		if len(trace) == 0 {
			continue
		}
		for _, activity := range part(trace) {
			found[activity] = true
		}
	}
	return slices.Sorted(maps.Keys(found))
}

// Variants returns the different traces in the order of their first occurrence, and how often each occurs.
func Variants(l [][]string) ([][]string, []int) {
	var variants [][]string
	var counts []int
	index := map[string]int{}
	for _, trace := range l {
		k := key(trace)
		i, ok := index[k]
		if !ok {
			i = len(variants)
			index[k] = i
			variants = append(variants, slices.Clone(trace))
			counts = append(counts, 0)
		}
		counts[i]++
	}
	return variants, counts
}

// key is different for different traces, also if their activities are arbitrary texts: each one is preceded by its length.
func key(trace []string) string {
	var k strings.Builder
	for _, activity := range trace {
		k.WriteString(strconv.Itoa(len(activity)))
		k.WriteByte(' ')
		k.WriteString(activity)
	}
	return k.String()
}

// Follows returns how often b comes directly after a in a trace.
func Follows(l [][]string, a, b string) int {
	count := 0
	for _, trace := range l {
		for i := 1; i < len(trace); i++ {
			if trace[i-1] == a && trace[i] == b {
				count++
			}
		}
	}
	return count
}

// Relation returns how a and b follow each other.
func Relation(l [][]string, a, b string) int {
	forward, backward := Follows(l, a, b) > 0, Follows(l, b, a) > 0
	switch {
	case forward && backward:
		return api.Around
	case forward:
		return api.Causes
	case backward:
		return api.Caused
	}
	return api.Apart
}
