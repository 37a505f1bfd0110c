package names

import (
	"strings"
	"testing"
)

func TestValid(t *testing.T) {
	for _, s := range []string{"a", "z", "_", "a.1_", "p0", "_.", strings.Repeat("a", 16)} {
		if !Valid(s) {
			t.Errorf("%q is a name", s)
		}
	}
	for _, s := range []string{"", "1a", ".a", "A", "aB", "a b", "a-", "ä", "a\x00", "a\n", "a'", strings.Repeat("a", 17)} {
		if Valid(s) {
			t.Errorf("%q is no name", s)
		}
	}
}

func TestValidExaminesEveryByte(t *testing.T) {
	const first = "abcdefghijklmnopqrstuvwxyz_"
	for c := range 256 {
		b := string([]byte{byte(c)})
		if Valid(b) != strings.Contains(first, b) {
			t.Errorf("%q alone", b)
		}
		if Valid("a"+b) != strings.Contains(first+"0123456789.", b) {
			t.Errorf("%q after a letter", b)
		}
	}
}
