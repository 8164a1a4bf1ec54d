// Package textline reads and writes texts of lines, each one ended by the byte 10, with words and numbers that have single blanks between.
package textline

import (
	"strconv"
	"strings"
)

// Read gives each line to take, up to the first one that take refuses or that does not end; it returns the number of this line, from 1 on, or 0 if there is none.
func Read(text string, take func(line string) bool) int {
	for number := 1; text != ""; number++ {
		line, rest, ended := strings.Cut(text, "\n")
		if !ended || !take(line) {
			return number
		}
		text = rest
	}
	return 0
}

// Words returns the words that a line is, and false if one of them is none.
func Words(line string) ([]string, bool) {
	words := strings.Split(line, " ")
	for _, word := range words {
		if !IsWord(word) {
			return nil, false
		}
	}
	return words, true
}

// IsWord says whether s is at least one byte, each from 33 to 126.
func IsWord(s string) bool { return IsText(s) && !strings.Contains(s, " ") }

// IsText says whether s is at least one byte, each from 32 to 126.
func IsText(s string) bool {
	for _, b := range []byte(s) {
		if b < ' ' || b > '~' {
			return false
		}
	}
	return s != ""
}

// Numbers returns the numbers that a line is, and false if it is not so many, each of at most so many digits (18 always fit).
func Numbers(line string, many, digits int) ([]int, bool) {
	words := strings.Split(line, " ")
	if len(words) != many {
		return nil, false
	}
	var numbers []int
	for _, word := range words {
		n, ok := Number(word, digits)
		if !ok {
			return nil, false
		}
		numbers = append(numbers, n)
	}
	return numbers, true
}

// Number returns the number that a word is, and false if it is not from 1 to so many digits (18 always fit) without a needless 0.
func Number(word string, digits int) (int, bool) {
	if word == "" || len(word) > digits || word[0] == '0' && len(word) > 1 {
		return 0, false
	}
	n := 0
	for _, b := range []byte(word) {
		if b < '0' || b > '9' {
			return 0, false
		}
		n = 10*n + int(b-'0')
	}
	return n, true
}

// Append writes a line of numbers behind b.
func Append(b []byte, numbers ...int) []byte {
	for i, n := range numbers {
		if i > 0 {
			b = append(b, ' ')
		}
		b = strconv.AppendInt(b, int64(n), 10)
	}
	return append(b, '\n')
}
