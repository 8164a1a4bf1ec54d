package schedule

import (
	"strconv"
	"strings"

	"perigee/api"
	"perigee/textline"
)

const maxDigits = 13

// none stands for an empty group, or for no fact.
const none = "-"

// Text writes a schedule, a line for each entry.
func Text(l []api.Entry) (string, api.Fault) {
	if fault := CheckEntries(l); fault != api.OK {
		return "", fault
	}
	var text strings.Builder
	for _, x := range l {
		words := []string{strconv.Itoa(x.Id), strconv.Itoa(x.At), none, none, x.Command}
		if x.Group != "" {
			words[2] = x.Group
		}
		if x.Not {
			words[3] = "!" + x.If
		} else if x.If != "" {
			words[3] = x.If
		}
		text.WriteString(strings.Join(words, " ") + "\n")
	}
	// As the limits are, MaxEntries lines are never as long.
	return limited(text.String())
}

func limited(text string) (string, api.Fault) {
	if len(text) > api.MaxSchedule {
		return "", api.ErrLarge
	}
	return text, api.OK
}

// Read returns the schedule that a text is; of a line that is none it returns the number, from 1 on.
func Read(text string) ([]api.Entry, int, api.Fault) {
	if len(text) > api.MaxSchedule {
		return nil, 0, api.ErrLarge
	}
	var l []api.Entry
	wrong := textline.Read(text, func(line string) bool {
		x, ok := readEntry(line)
		l = append(l, x)
		return ok
	})
	if wrong > 0 {
		return nil, wrong, api.ErrSyntax
	}
	if fault := CheckEntries(l); fault != api.OK {
		return nil, 0, fault
	}
	return l, 0, api.OK
}

// readEntry returns the entry that a line is, and false if it is none.
func readEntry(line string) (api.Entry, bool) {
	words := strings.SplitN(line, " ", 5)
	if len(words) < 5 || !textline.IsWord(words[2]) || !textline.IsWord(words[3]) || !textline.IsText(words[4]) {
		return api.Entry{}, false
	}
	id, isId := textline.Number(words[0], maxDigits)
	at, isAt := textline.Number(words[1], maxDigits)
	x := api.Entry{Id: id, At: at, Command: words[4]}
	if words[2] != none {
		x.Group = words[2]
	}
	if words[3] != none {
		x.If, x.Not = strings.CutPrefix(words[3], "!")
	}
	return x, isId && isAt && words[3] != "!"
}
