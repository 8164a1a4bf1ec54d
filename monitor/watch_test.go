package monitor_test

import (
	"strings"
	"testing"

	"perigee/api"
	"perigee/monitor"
)

// rightWatch is a watch whose elements can be spoiled.
func rightWatch() api.Watch {
	return watch("a b c", "a e b", "b e c", "b f b", "c e a",
		"p e a once: raise x, switch-off u, on q",
		"q x * always: off p, raise y, switch-on u",
		"r y c always: off p, on r, raise z",
		"s y c always")
}

// spoilsOfModes are the errors of Modes, in the document's order, as all of the following.
func spoilsOfModes() []spoil[api.Watch] {
	l := []spoil[api.Watch]{
		{"no modes", api.ErrNone, func(w *api.Watch) { w.Modes = nil }},
		{"too many modes", api.ErrLarge, func(w *api.Watch) {
			for len(w.Modes) <= api.MaxModes {
				w.Modes = append(w.Modes, w.Modes[1])
			}
		}},
	}
	for _, name := range noNames {
		l = append(l, spoil[api.Watch]{"the mode " + name, api.ErrName, func(w *api.Watch) { w.Modes[1] = name }})
	}
	return append(l, []spoil[api.Watch]{
		{"a mode again", api.ErrOrder, func(w *api.Watch) { w.Modes[1] = "a" }},
		{"a lesser mode", api.ErrOrder, func(w *api.Watch) { w.Modes[0] = "bb" }},
		{"a mode behind", api.ErrName, func(w *api.Watch) { w.Modes[2] = "?" }},
		{"a mode again behind", api.ErrOrder, func(w *api.Watch) { w.Modes[2] = "b" }},
	}...)
}

func spoilsOfChanges() []spoil[api.Watch] {
	l := []spoil[api.Watch]{
		{"too many changes", api.ErrLarge, func(w *api.Watch) {
			for len(w.Changes) <= api.MaxChanges {
				w.Changes = append(w.Changes, w.Changes[1])
			}
		}},
	}
	for _, name := range []string{"", "?", "aa", "d", "*", "e", "A"} {
		l = append(l, []spoil[api.Watch]{
			{"From " + name, api.ErrNone, func(w *api.Watch) { w.Changes[1].From = name }},
			{"To " + name, api.ErrNone, func(w *api.Watch) { w.Changes[1].To = name }},
		}...)
	}
	for _, name := range noNames {
		l = append(l, spoil[api.Watch]{"the event " + name, api.ErrName, func(w *api.Watch) { w.Changes[1].Event = name }})
	}
	return append(l, []spoil[api.Watch]{
		{"a change again", api.ErrOrder, func(w *api.Watch) { w.Changes[1].From = "a" }},
		{"a lesser mode of a change", api.ErrOrder, func(w *api.Watch) { w.Changes[0].From = "c" }},
		{"a lesser event of a change", api.ErrOrder, func(w *api.Watch) { w.Changes[0] = api.ModeChange{From: "b", Event: "ee", To: "b"} }},
		{"From behind", api.ErrNone, func(w *api.Watch) { w.Changes[2].From = "?" }},
		{"an event again behind", api.ErrOrder, func(w *api.Watch) { w.Changes[2].Event = "e" }},
		{"an event behind", api.ErrName, func(w *api.Watch) { w.Changes[3].Event = "?" }},
		{"no first mode", api.ErrNone, func(w *api.Watch) { w.Mode = "" }},
		{"another first mode", api.ErrNone, func(w *api.Watch) { w.Mode = "aa" }},
		{"a first mode that is no name", api.ErrNone, func(w *api.Watch) { w.Mode = "*" }},
	}...)
}

func spoilsOfRules() []spoil[api.Watch] {
	l := []spoil[api.Watch]{
		{"too many rules", api.ErrLarge, func(w *api.Watch) {
			for len(w.Rules) <= api.MaxRules {
				w.Rules = append(w.Rules, w.Rules[1])
			}
		}},
	}
	for _, name := range noNames {
		l = append(l, []spoil[api.Watch]{
			{"the rule " + name, api.ErrName, func(w *api.Watch) { w.Rules[1].Name = name }},
			{"the event of a rule " + name, api.ErrName, func(w *api.Watch) { w.Rules[1].Event = name }},
		}...)
	}
	for _, name := range []string{"?", "aa", "d", "*", "e", "A"} {
		l = append(l, spoil[api.Watch]{"the mode of a rule " + name, api.ErrNone, func(w *api.Watch) { w.Rules[1].Mode = name }})
	}
	l = append(l, spoil[api.Watch]{"too many acts", api.ErrLarge, func(w *api.Watch) {
		for len(w.Rules[1].Acts) <= api.MaxActs {
			w.Rules[1].Acts = append(w.Rules[1].Acts, w.Rules[1].Acts[1])
		}
	}})
	for _, n := range beyond(api.ActRaise, api.ActSwitch) {
		l = append(l, spoil[api.Watch]{"Kind", api.ErrKind, func(w *api.Watch) { w.Rules[1].Acts[1].Kind = n }})
	}
	for _, name := range noNames {
		l = append(l, spoil[api.Watch]{"the name of an act " + name, api.ErrName, func(w *api.Watch) { w.Rules[1].Acts[1].Name = name }})
	}
	return append(l, []spoil[api.Watch]{
		{"Off of ActRaise", api.ErrForm, func(w *api.Watch) { w.Rules[1].Acts[1].Off = true }},
		{"Off of ActOn", api.ErrForm, func(w *api.Watch) { w.Rules[1].Acts[1] = api.Act{Kind: api.ActOn, Name: "p", Off: true} }},
		{"Off of ActOff", api.ErrForm, func(w *api.Watch) { w.Rules[1].Acts[1] = api.Act{Kind: api.ActOff, Name: "p", Off: true} }},
		{"Kind behind", api.ErrKind, func(w *api.Watch) { w.Rules[1].Acts[2].Kind = 0 }},
		{"a rule again", api.ErrOrder, func(w *api.Watch) { w.Rules[1].Name = "p" }},
		{"a lesser rule", api.ErrOrder, func(w *api.Watch) { w.Rules[0].Name = "qq" }},
		{"a rule behind", api.ErrName, func(w *api.Watch) { w.Rules[2].Name = "?" }},
		{"a rule again behind", api.ErrOrder, func(w *api.Watch) { w.Rules[2].Name = "q" }},
		{"an act of the last rule", api.ErrKind, func(w *api.Watch) { w.Rules[3].Acts = []api.Act{{Kind: 5, Name: "a"}} }},
		{"ActOn of no rule", api.ErrNone, func(w *api.Watch) { w.Rules[0].Acts[2].Name = "x" }},
		{"ActOff of no rule", api.ErrNone, func(w *api.Watch) { w.Rules[1].Acts[0].Name = "pp" }},
		{"ActOff of no rule behind", api.ErrNone, func(w *api.Watch) { w.Rules[2].Acts[0].Name = "y" }},
		{"ActOn of no rule behind", api.ErrNone, func(w *api.Watch) { w.Rules[2].Acts[1].Name = "y" }},
	}...)
}

// wrongWatches are watches with errors, the first one in the document's order with its fault.
func wrongWatches(try func(name string, w api.Watch, want api.Fault)) {
	wrongs(rightWatch, append(append(spoilsOfModes(), spoilsOfChanges()...), spoilsOfRules()...), try)
}

// mostOfAll is a watch that is at all of its bounds.
func mostOfAll() api.Watch {
	long := func(name string) string { return name + strings.Repeat("z", api.MaxName-len(name)) }
	var w api.Watch
	for _, name := range named(api.MaxModes) {
		w.Modes = append(w.Modes, long(name))
	}
	w.Mode = w.Modes[api.MaxModes-1]
	for _, mode := range w.Modes {
		for _, event := range named(api.MaxChanges / api.MaxModes) {
			w.Changes = append(w.Changes, api.ModeChange{From: mode, Event: long(event), To: w.Mode})
		}
	}
	for _, name := range named(api.MaxRules) {
		x := api.WatchRule{Name: long(name), Event: long("e"), Mode: w.Mode}
		for range api.MaxActs {
			x.Acts = append(x.Acts, api.Act{Kind: api.ActSwitch, Name: long("u"), Off: true})
		}
		w.Rules = append(w.Rules, x)
	}
	return w
}

// F3.
func TestCheckWatch(t *testing.T) {
	for name, w := range map[string]api.Watch{
		"right":                       rightWatch(),
		"most of all":                 mostOfAll(),
		"a mode alone":                watch("a"),
		"no modes of rules":           watch("a", "r e * always", "s e * once"),
		"an event leads to itself":    watch("a b", "a e a", "a f b", "b e a"),
		"names of one kind":           watch("e", "e e e", "e e e once: on e, off e, raise e, switch-on e, switch-off e"),
		"acts of rules behind":        watch("a", "r e * always: on s, off s, on r, on q", "s e * always", "q e * always"),
		"an event in order of bytes":  watch("a a-b a0 aa", "a e a", "a e-f a", "a e0 a", "a ee a", "a-b e a", "a0 e a"),
		"begin with another mode":     {Modes: []string{"a", "b"}, Mode: "b"},
		"names of events that differ": watch("a b", "a f a", "b e a"),
	} {
		want := api.OK
		if name == "acts of rules behind" {
			want = api.ErrOrder
		}
		wantFault(t, name, monitor.CheckWatch(w), want)
	}
	wantFault(t, "acts of rules behind", monitor.CheckWatch(watch("a", "q e * always", "r e * always: on s, off s, on r, on q", "s e * always")), api.OK)
	for _, name := range rightNames {
		wantFault(t, name, monitor.CheckWatch(watch(name, name+" "+name+" "+name, name+" "+name+" "+name+" once: raise "+name+", on "+name+", switch-off "+name)), api.OK)
	}
}

// TestErrorsOfWatches come first in all functions that have one.
func TestErrorsOfWatches(t *testing.T) {
	others := []struct {
		l        []api.Event
		at       int
		from, to string
		outside  []string
	}{
		{nil, 0, "a", "c", nil},
		{events("5:?"), -1, "?", "?", []string{"?"}},
	}
	wrongWatches(func(name string, w api.Watch, want api.Fault) {
		for _, o := range others {
			for of, f := range withWatch(w, o.l, o.at, o.from, o.to, o.outside) {
				wantFault(t, of+": "+name, f, want)
			}
		}
	})
	for of, f := range withWatch(rightWatch(), nil, 0, "a", "c", nil) {
		wantFault(t, of, f, api.OK)
	}
}
