package clock

import (
	"strconv"
	"strings"

	"perigee/api"
)

const maxDigits = 13

// Text writes marks, a line each.
func Text(m []api.Mark) (string, api.Fault) {
	if f := CheckMarks(m); f != api.OK {
		return "", f
	}
	var b []byte
	for _, x := range m {
		b = strconv.AppendInt(b, int64(x.Tick), 10)
		b = append(b, ' ')
		b = strconv.AppendInt(b, int64(x.Time), 10)
		b = append(b, ' ')
		b = strconv.AppendInt(b, int64(x.Off), 10)
		b = append(b, '\n')
	}
	// As the limits are, MaxMarks lines are never as long.
	if len(b) > api.MaxClock {
		return "", api.ErrLarge
	}
	return string(b), api.OK
}

// Read returns the marks that a text is; of a line that is none it returns the number, from 1 on.
func Read(text string) ([]api.Mark, int, api.Fault) {
	if len(text) > api.MaxClock {
		return nil, 0, api.ErrLarge
	}
	var m []api.Mark
	for line := 1; text != ""; line++ {
		words, rest, ended := strings.Cut(text, "\n")
		x, ok := readMark(words)
		if !ok || !ended {
			return nil, line, api.ErrSyntax
		}
		m = append(m, x)
		text = rest
	}
	if f := CheckMarks(m); f != api.OK {
		return nil, 0, f
	}
	return m, 0, api.OK
}

func readMark(line string) (api.Mark, bool) {
	words := strings.Split(line, " ")
	if len(words) != 3 {
		return api.Mark{}, false
	}
	for _, word := range words {
		if !isNumber(word) {
			return api.Mark{}, false
		}
	}
	return api.Mark{Tick: number(words[0]), Time: number(words[1]), Off: number(words[2])}, true
}

// isNumber says whether a word is digits without a needless 0.
func isNumber(word string) bool {
	if word == "" || len(word) > maxDigits || word[0] == '0' && len(word) > 1 {
		return false
	}
	for _, b := range []byte(word) {
		if !isDigit(b) {
			return false
		}
	}
	return true
}
