// Package names decides which texts are names; nets, color sets, logs and transition systems share the rule.
package names

import "petrinet/api"

// Valid reports whether s has 1 to MaxName bytes, which are lower-case letters, digits, "_" or ".", the first one a letter or "_".
func Valid(s string) bool {
	if len(s) < 1 || len(s) > api.MaxName {
		return false
	}
	for i, r := range s {
		if !starts(r) && (i == 0 || !continues(r)) {
			return false
		}
	}
	return true
}

func starts(r rune) bool {
	return 'a' <= r && r <= 'z' || r == '_'
}

func continues(r rune) bool {
	return '0' <= r && r <= '9' || r == '.'
}
