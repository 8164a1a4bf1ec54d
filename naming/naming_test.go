package naming_test

import (
	"strings"
	"testing"

	"perigee/api"
	"perigee/naming"
)

func TestNames(t *testing.T) {
	for _, c := range []struct {
		s          string
		name, word bool
	}{
		{"a", true, true},
		{"z", true, true},
		{"m0", true, true},
		{"m9", true, true},
		{"a_", true, true},
		{"zz__99_a", true, true},
		{"a-", true, false},
		{"a-b_c9", true, false},
		{strings.Repeat("z", api.MaxName), true, true},
		{strings.Repeat("z", api.MaxName-1) + "-", true, false},
		{strings.Repeat("z", api.MaxName+1), false, false},
		{"", false, false},
		{"0", false, false},
		{"9a", false, false},
		{"_", false, false},
		{"_a", false, false},
		{"-", false, false},
		{"-a", false, false},
		{"A", false, false},
		{"aB", false, false},
		{"aZ", false, false},
		{"a b", false, false},
		{" a", false, false},
		{"a ", false, false},
		{"a\n", false, false},
		{"a\x00", false, false},
		{"a/", false, false},
		{"a:", false, false},
		{"a`", false, false},
		{"a{", false, false},
		{"`", false, false},
		{"{", false, false},
		{"\xc3\xa4", false, false},
		{"a\xc3\xa4", false, false},
		{"a\xff", false, false},
	} {
		if got := naming.IsName(c.s); got != c.name {
			t.Errorf("IsName of %q: %v", c.s, got)
		}
		if got := naming.IsWord(c.s); got != c.word {
			t.Errorf("IsWord of %q: %v", c.s, got)
		}
	}
}
