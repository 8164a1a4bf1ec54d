package textline_test

import (
	"slices"
	"strings"
	"testing"

	"perigee/textline"
)

func TestRead(t *testing.T) {
	for _, c := range []struct {
		name, text string
		want       int
		lines      []string
	}{
		{"nothing", "", 0, nil},
		{"lines", "a\n b \n", 0, []string{"a", " b "}},
		{"empty lines", "\n\n", 0, []string{"", ""}},
		{"no end", "a", 1, nil},
		{"no end of the last one", "a\nb\nc", 3, []string{"a", "b"}},
		{"refused at once", "no\na\n", 1, []string{"no"}},
		{"refused, the rest not read", "a\nb\nno\nc\nno\n", 3, []string{"a", "b", "no"}},
		{"refused before no end", "a\nno\nb", 2, []string{"a", "no"}},
	} {
		var got []string
		wrong := textline.Read(c.text, func(line string) bool {
			got = append(got, line)
			return line != "no"
		})
		if wrong != c.want || !slices.Equal(got, c.lines) {
			t.Errorf("%s: line %d of %q, want %d of %q", c.name, wrong, got, c.want, c.lines)
		}
	}
}

func TestNumbers(t *testing.T) {
	for _, c := range []struct {
		line         string
		many, digits int
		want         []int
	}{
		{"0", 1, 1, []int{0}},
		{"7 10 0", 3, 2, []int{7, 10, 0}},
		{"999999999999999999", 1, 18, []int{999999999999999999}},
		{"7 8", 1, 9, nil},
		{"7 8", 3, 9, nil},
		{"7 100", 2, 2, nil},
		{"7 08", 2, 9, nil},
		{"00", 1, 9, nil},
		{"", 1, 9, nil},
		{" 7", 2, 9, nil},
		{"7 ", 2, 9, nil},
		{"7  8", 2, 9, nil},
		{"7  8", 3, 9, nil},
		{"7\t8", 2, 9, nil},
		{"-7", 1, 9, nil},
		{"+7", 1, 9, nil},
		{"7/", 1, 9, nil},
		{"7:", 1, 9, nil},
		{strings.Repeat("9", 100), 1, 18, nil},
	} {
		got, ok := textline.Numbers(c.line, c.many, c.digits)
		if ok != (c.want != nil) || !slices.Equal(got, c.want) {
			t.Errorf("%q: got %v, %v, want %v", c.line, got, ok, c.want)
		}
	}
}

func TestAppend(t *testing.T) {
	b := textline.Append(nil, 5)
	b = textline.Append(b, 0, 17, -3)
	b = textline.Append(b)
	if string(b) != "5\n0 17 -3\n\n" {
		t.Errorf("got %q", b)
	}
}
