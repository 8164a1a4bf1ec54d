package textline_test

import (
	"slices"
	"strings"
	"testing"

	"perigee/textline"
)

func TestRead(t *testing.T) {
	for _, c := range []struct {
		name, text string
		want       int
		lines      []string
	}{
		{"nothing", "", 0, nil},
		{"lines", "a\n b \n", 0, []string{"a", " b "}},
		{"empty lines", "\n\n", 0, []string{"", ""}},
		{"no end", "a", 1, nil},
		{"no end of the last one", "a\nb\nc", 3, []string{"a", "b"}},
		{"refused at once", "no\na\n", 1, []string{"no"}},
		{"refused, the rest not read", "a\nb\nno\nc\nno\n", 3, []string{"a", "b", "no"}},
		{"refused before no end", "a\nno\nb", 2, []string{"a", "no"}},
	} {
		var got []string
		wrong := textline.Read(c.text, func(line string) bool {
			got = append(got, line)
			return line != "no"
		})
		if wrong != c.want || !slices.Equal(got, c.lines) {
			t.Errorf("%s: line %d of %q, want %d of %q", c.name, wrong, got, c.want, c.lines)
		}
	}
}

func TestNumbers(t *testing.T) {
	for _, c := range []struct {
		line         string
		many, digits int
		want         []int
	}{
		{"0", 1, 1, []int{0}},
		{"7 10 0", 3, 2, []int{7, 10, 0}},
		{"999999999999999999", 1, 18, []int{999999999999999999}},
		{"7 8", 1, 9, nil},
		{"7 8", 3, 9, nil},
		{"7 100", 2, 2, nil},
		{"7 08", 2, 9, nil},
		{"00", 1, 9, nil},
		{"", 1, 9, nil},
		{" 7", 2, 9, nil},
		{"7 ", 2, 9, nil},
		{"7  8", 2, 9, nil},
		{"7  8", 3, 9, nil},
		{"7\t8", 2, 9, nil},
		{"-7", 1, 9, nil},
		{"+7", 1, 9, nil},
		{"7/", 1, 9, nil},
		{"7:", 1, 9, nil},
		{strings.Repeat("9", 100), 1, 18, nil},
	} {
		got, ok := textline.Numbers(c.line, c.many, c.digits)
		if ok != (c.want != nil) || !slices.Equal(got, c.want) {
			t.Errorf("%q: got %v, %v, want %v", c.line, got, ok, c.want)
		}
	}
}

func TestNumber(t *testing.T) {
	for _, c := range []struct {
		word   string
		digits int
		want   int
		ok     bool
	}{
		{"0", 1, 0, true},
		{"10", 2, 10, true},
		{"9999999999999", 13, 9999999999999, true},
		{"10000000000000", 13, 0, false},
		{"01", 13, 0, false},
		{"", 13, 0, false},
		{"7 8", 13, 0, false},
		{"-7", 13, 0, false},
	} {
		got, ok := textline.Number(c.word, c.digits)
		if got != c.want || ok != c.ok {
			t.Errorf("%q: got %d, %v, want %d, %v", c.word, got, ok, c.want, c.ok)
		}
	}
}

func TestWords(t *testing.T) {
	for _, c := range []struct {
		line string
		want []string
	}{
		{"a", []string{"a"}},
		{"a bc ! ~", []string{"a", "bc", "!", "~"}},
		{"", nil},
		{" ", nil},
		{" a", nil},
		{"a ", nil},
		{"a  b", nil},
		{"a\tb", nil},
		{"a b\x7f", nil},
		{"a \u0665", nil},
		{"a\x00", nil},
	} {
		got, ok := textline.Words(c.line)
		if ok != (c.want != nil) || !slices.Equal(got, c.want) {
			t.Errorf("%q: got %q, %v, want %q", c.line, got, ok, c.want)
		}
	}
}

func TestIsWordAndIsText(t *testing.T) {
	for b := range 256 {
		for _, around := range []string{"", "a", "ab"} {
			s := around + string([]byte{byte(b)}) + around
			if textline.IsWord(s) != (b >= 33 && b <= 126) || textline.IsText(s) != (b >= 32 && b <= 126) {
				t.Errorf("%q: word %v, text %v", s, textline.IsWord(s), textline.IsText(s))
			}
		}
	}
	if textline.IsWord("") || textline.IsText("") {
		t.Error("no bytes are no word and no text")
	}
}

func TestAppend(t *testing.T) {
	b := textline.Append(nil, 5)
	b = textline.Append(b, 0, 17, -3)
	b = textline.Append(b)
	if string(b) != "5\n0 17 -3\n\n" {
		t.Errorf("got %q", b)
	}
}
