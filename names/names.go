// Package names decides which texts are names; nets, color sets and logs share the rule.
package names

import "petrinet/api"

// Valid reports whether s has 1 to MaxName bytes, which are lower-case letters, digits, "_" or ".", the first one a letter or "_".
func Valid(s string) bool {
	if len(s) < 1 || len(s) > api.MaxName || !starts(s[0]) {
		return false
	}
	for i := range len(s) {
		if !continues(s[i]) {
			return false
		}
	}
	return true
}

func starts(c byte) bool {
	return 'a' <= c && c <= 'z' || c == '_'
}

func continues(c byte) bool {
	return starts(c) || '0' <= c && c <= '9' || c == '.'
}
