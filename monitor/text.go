package monitor

import (
	"strings"

	"perigee/api"
	"perigee/textline"
)

// anyMode stands for the empty Mode of a rule.
const anyMode = "*"

const (
	once   = "once"
	always = "always"
)

// actWords has the words for acts.
var actWords = []struct {
	word string
	kind int
	off  bool
}{
	{"raise", api.ActRaise, false},
	{"on", api.ActOn, false},
	{"off", api.ActOff, false},
	{"switch-on", api.ActSwitch, false},
	{"switch-off", api.ActSwitch, true},
}

// Text writes a watch, a line for each mode, change, rule and act.
func Text(w api.Watch) (string, api.Fault) {
	if fault := CheckWatch(w); fault != api.OK {
		return "", fault
	}
	var text strings.Builder
	line := func(words ...string) { text.WriteString(strings.Join(words, " ") + "\n") }
	for _, mode := range w.Modes {
		line("mode", mode)
	}
	for _, x := range w.Changes {
		line("change", x.From, x.Event, x.To)
	}
	line("begin", w.Mode)
	for _, x := range w.Rules {
		mode, kind := x.Mode, always
		if mode == "" {
			mode = anyMode
		}
		if x.Once {
			kind = once
		}
		line("rule", x.Name, x.Event, mode, kind)
		for _, a := range x.Acts {
			line(actWord(a), a.Name)
		}
	}
	// As the limits are, no watch has as many bytes.
	if text.Len() > api.MaxMonitor {
		return "", api.ErrLarge
	}
	return text.String(), api.OK
}

func actWord(a api.Act) string {
	for _, x := range actWords {
		if x.kind == a.Kind && x.off == a.Off {
			return x.word
		}
	}
	return ""
}

// Read returns the watch that a text is; of a line that cannot stand there it returns the number, from 1 on.
func Read(text string) (api.Watch, int, api.Fault) {
	if len(text) > api.MaxMonitor {
		return api.Watch{}, 0, api.ErrLarge
	}
	var r reader
	wrong := textline.Read(text, r.take)
	if wrong == 0 && !r.begun {
		wrong = strings.Count(text, "\n") + 1
	}
	if wrong > 0 {
		return api.Watch{}, wrong, api.ErrSyntax
	}
	if fault := CheckWatch(r.watch); fault != api.OK {
		return api.Watch{}, 0, fault
	}
	return r.watch, 0, api.OK
}

// reader is the watch that was read so far, and whether the first mode was.
type reader struct {
	watch api.Watch
	begun bool
}

// take takes a line, and says whether it can stand there.
func (r *reader) take(line string) bool {
	words, ok := textline.Words(line)
	switch {
	case !ok:
		return false
	case !r.begun:
		return r.takeMode(words[0], words[1:])
	case words[0] == "rule":
		return r.takeRule(words[1:])
	}
	return r.takeAct(words[0], words[1:])
}

// takeMode takes a line up to that of the first mode.
func (r *reader) takeMode(kind string, words []string) bool {
	w := &r.watch
	switch {
	case kind == "mode" && len(words) == 1 && len(w.Changes) == 0:
		w.Modes = append(w.Modes, words[0])
	case kind == "change" && len(words) == 3:
		w.Changes = append(w.Changes, api.ModeChange{From: words[0], Event: words[1], To: words[2]})
	case kind == "begin" && len(words) == 1:
		w.Mode, r.begun = words[0], true
	default:
		return false
	}
	return true
}

func (r *reader) takeRule(words []string) bool {
	if len(words) != 4 || words[3] != once && words[3] != always {
		return false
	}
	x := api.WatchRule{Name: words[0], Event: words[1], Once: words[3] == once}
	if words[2] != anyMode {
		x.Mode = words[2]
	}
	r.watch.Rules = append(r.watch.Rules, x)
	return true
}

// takeAct takes an act of the last rule.
func (r *reader) takeAct(kind string, words []string) bool {
	if len(r.watch.Rules) == 0 || len(words) != 1 {
		return false
	}
	last := &r.watch.Rules[len(r.watch.Rules)-1]
	for _, x := range actWords {
		if x.word == kind {
			last.Acts = append(last.Acts, api.Act{Kind: x.kind, Name: words[0], Off: x.off})
			return true
		}
	}
	return false
}
