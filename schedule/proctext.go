package schedule

import (
	"strconv"
	"strings"

	"perigee/api"
	"perigee/textline"
)

// ProcText writes procedures, a line for each one and for each of its steps.
func ProcText(p []api.Proc) (string, api.Fault) {
	if fault := CheckProcs(p); fault != api.OK {
		return "", fault
	}
	var text strings.Builder
	for _, x := range p {
		text.WriteString("proc " + x.Name + "\n")
		for _, step := range x.Steps {
			text.WriteString(stepLine(step) + "\n")
		}
	}
	return limited(text.String())
}

func stepLine(s api.ProcStep) string {
	switch s.Kind {
	case api.ProcSend:
		return "send " + s.Text
	case api.ProcWait:
		return "wait " + strconv.Itoa(s.N)
	case api.ProcAwait:
		return "await " + s.Text + " " + strconv.Itoa(s.N) + " " + s.Label
	case api.ProcIf:
		if s.Not {
			return "unless " + s.Text + " " + s.Label
		}
		return "if " + s.Text + " " + s.Label
	case api.ProcGo:
		return "go " + s.Label
	case api.ProcCall:
		return "call " + s.Text
	case api.ProcEnd:
		return "end"
	}
	return "label " + s.Label
}

// ReadProcs returns the procedures that a text is; of a line that cannot stand there it returns the number, from 1 on.
func ReadProcs(text string) ([]api.Proc, int, api.Fault) {
	if len(text) > api.MaxSchedule {
		return nil, 0, api.ErrLarge
	}
	var p []api.Proc
	wrong := textline.Read(text, func(line string) bool {
		if name, ok := strings.CutPrefix(line, "proc "); ok {
			p = append(p, api.Proc{Name: name})
			return textline.IsWord(name)
		}
		step, ok := readStep(line)
		if !ok || len(p) == 0 {
			return false
		}
		last := &p[len(p)-1]
		last.Steps = append(last.Steps, step)
		return true
	})
	if wrong > 0 {
		return nil, wrong, api.ErrSyntax
	}
	if fault := CheckProcs(p); fault != api.OK {
		return nil, 0, fault
	}
	return p, 0, api.OK
}

// readStep returns the step that a line is, and false if it is none.
func readStep(line string) (api.ProcStep, bool) {
	if command, ok := strings.CutPrefix(line, "send "); ok {
		return api.ProcStep{Kind: api.ProcSend, Text: command}, textline.IsText(command)
	}
	words, ok := textline.Words(line)
	if !ok {
		return api.ProcStep{}, false
	}
	kind, words := words[0], words[1:]
	switch len(words) {
	case 0:
		return api.ProcStep{Kind: api.ProcEnd}, kind == "end"
	case 1:
		return readShort(kind, words[0])
	case 2:
		return api.ProcStep{Kind: api.ProcIf, Text: words[0], Label: words[1], Not: kind == "unless"}, kind == "if" || kind == "unless"
	case 3:
		n, ok := textline.Number(words[1], maxDigits)
		return api.ProcStep{Kind: api.ProcAwait, Text: words[0], N: n, Label: words[2]}, ok && kind == "await"
	}
	return api.ProcStep{}, false
}

// readShort returns the step that a line of two words is, and false if it is none.
func readShort(kind, word string) (api.ProcStep, bool) {
	switch kind {
	case "wait":
		n, ok := textline.Number(word, maxDigits)
		return api.ProcStep{Kind: api.ProcWait, N: n}, ok
	case "go":
		return api.ProcStep{Kind: api.ProcGo, Label: word}, true
	case "call":
		return api.ProcStep{Kind: api.ProcCall, Text: word}, true
	case "label":
		return api.ProcStep{Kind: api.ProcLabel, Label: word}, true
	}
	return api.ProcStep{}, false
}
