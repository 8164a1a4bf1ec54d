// Package naming tells the names that several chapters have from other strings.
package naming

import (
	"strings"

	"perigee/api"
)

// IsName says whether s is from 1 to MaxName bytes, each a small letter, a digit, `-` or `_`, the first one a letter.
func IsName(s string) bool { return is(s, "-_") }

// IsWord says whether s is such a name without `-`.
func IsWord(s string) bool { return is(s, "_") }

func is(s, marks string) bool {
	if s == "" || len(s) > api.MaxName || !isSmall(s[0]) {
		return false
	}
	for _, b := range []byte(s) {
		if !isSmall(b) && (b < '0' || b > '9') && strings.IndexByte(marks, b) < 0 {
			return false
		}
	}
	return true
}

func isSmall(b byte) bool { return b >= 'a' && b <= 'z' }
