package monitor_test

import (
	"fmt"
	"math/rand"
	"slices"
	"strings"
	"testing"

	"perigee/api"
	"perigee/monitor"
)

func rightEvents() []api.Event { return events("5:x 5:e 7:y") }

// wrongEvents are events with errors, the first one in the document's order with its fault.
func wrongEvents(try func(name string, l []api.Event, want api.Fault)) {
	l := []spoil[[]api.Event]{
		{"too many", api.ErrLarge, func(l *[]api.Event) {
			for len(*l) <= api.MaxEvents {
				*l = append(*l, (*l)[1])
			}
		}},
	}
	for _, n := range beyond(0, api.MaxMoment) {
		l = append(l, spoil[[]api.Event]{"At", api.ErrRange, func(l *[]api.Event) { (*l)[1].At = n }})
	}
	for _, name := range noNames {
		l = append(l, spoil[[]api.Event]{"the name " + name, api.ErrName, func(l *[]api.Event) { (*l)[1].Name = name }})
	}
	l = append(l, []spoil[[]api.Event]{
		{"order", api.ErrOrder, func(l *[]api.Event) { (*l)[1].At = 4 }},
		{"order by the first one", api.ErrOrder, func(l *[]api.Event) { (*l)[0].At = 6 }},
		{"a moment behind", api.ErrRange, func(l *[]api.Event) { (*l)[2].At = -1 }},
		{"order behind", api.ErrOrder, func(l *[]api.Event) { (*l)[2].At = 4 }},
	}...)
	wrongs(rightEvents, l, try)
}

// F4.
func TestCheckEvents(t *testing.T) {
	for _, l := range [][]api.Event{nil, rightEvents(), events("0:a 1000000000000:a"), events("5:b 5:a 5:a"), slices.Repeat(events("5:a"), api.MaxEvents)} {
		wantFault(t, "right", monitor.CheckEvents(l), api.OK)
	}
	for _, name := range rightNames {
		wantFault(t, name, monitor.CheckEvents(events("5:"+name)), api.OK)
	}
	wrongEvents(func(name string, l []api.Event, want api.Fault) {
		wantFault(t, name, monitor.CheckEvents(l), want)
		for _, w := range []api.Watch{rightWatch(), looping()} {
			for _, at := range []int{-1, 5, 7, api.MaxMoment} {
				faults := withWatch(w, l, at, "a", "a", nil)
				for _, of := range []string{"Play", "ModeAt", "UnitsOn"} {
					wantFault(t, of+": "+name, faults[of], want)
				}
			}
		}
	})
	for _, n := range beyond(0, api.MaxMoment) {
		for _, w := range []api.Watch{rightWatch(), looping()} {
			faults := withWatch(w, rightEvents(), n, "a", "a", nil)
			wantFault(t, "ModeAt", faults["ModeAt"], api.ErrRange)
			wantFault(t, "UnitsOn", faults["UnitsOn"], api.ErrRange)
		}
	}
}

func TestPlay(t *testing.T) {
	for _, c := range []struct {
		name   string
		watch  api.Watch
		events string
		want   string
		mode   string
		units  string
	}{
		{"nothing", watch("a"), "", "", "a", ""},
		{"an event that nobody knows", watch("a b"), "5:e", "5:e@a", "a", ""},
		{"the first mode", api.Watch{Modes: []string{"a", "b"}, Mode: "b"}, "5:e", "5:e@b", "b", ""},
		{"changes of the mode", watch("a b c", "a e b", "b e c", "c f a"), "1:e 2:e 2:e 3:f 4:f 5:e", "1:e@a 2:e@b 2:e@c 3:f@c 4:f@a 5:e@a", "b", ""},
		{"a change to the same mode", watch("a b", "a e a"), "1:e 2:e", "1:e@a 2:e@a", "a", ""},
		{"rules in order of names, in the mode in which it came", watch("a b", "a e b", "p e * always", "q e b always", "r f a always", "s e a always"),
			"1:e 2:e", "1:e@a 1:e@a>p 1:e@a>s 2:e@b 2:e@b>p 2:e@b>q", "b", ""},
		{"the document's words on Once", watch("a", "p e * once", "q e * always"), "1:e 2:e", "1:e@a 1:e@a>p 1:e@a>q 2:e@a 2:e@a>q", "a", ""},
		{"Once in another mode is not yet", watch("a b", "a x b", "p e b once"), "1:e 2:x 3:e 4:e", "1:e@a 2:x@a 3:e@b 3:e@b>p 4:e@b", "b", ""},
		{"what is raised comes behind what was raised", watch("a", "p e * always: raise x, raise y", "q x * always: raise z", "r e * always: raise w"),
			"1:e 1:f", "1:e@a 1:e@a>p 1:e@a>r 1:x@a 1:x@a>q 1:y@a 1:w@a 1:z@a 1:f@a", "a", ""},
		{"what is raised comes in the new mode", watch("a b c", "a e b", "b x c", "p e a always: raise x", "q x a always", "r x b always"),
			"1:e", "1:e@a 1:e@a>p 1:x@b 1:x@b>r", "c", ""},
		{"what is raised comes before the next one", watch("a b", "a x b", "p e * always: raise x"), "1:e 1:e 2:e", "1:e@a 1:e@a>p 1:x@a 1:e@b 1:e@b>p 1:x@b 2:e@b 2:e@b>p 2:x@b", "b", ""},
		{"off, for events that come later", watch("a", "p e * always: off q", "q e * always"), "1:e 2:e", "1:e@a 1:e@a>p 1:e@a>q 2:e@a 2:e@a>p", "a", ""},
		{"what is off stays off, though it fires", watch("a", "p e * always: off q", "q e * always: raise e"), "1:e", "1:e@a 1:e@a>p 1:e@a>q 1:e@a 1:e@a>p", "a", ""},
		{"on, for events that come later", watch("a", "p e * always: on q", "q e * once", "r f * always: off q"), "1:f 2:e 3:e", "1:f@a 1:f@a>r 2:e@a 2:e@a>p 3:e@a 3:e@a>p 3:e@a>q", "a", ""},
		{"on for what is raised", watch("a", "p f * always: off q", "q e * always", "r g * always: on q, raise e"), "1:f 2:e 3:g 4:e", "1:f@a 1:f@a>p 2:e@a 3:g@a 3:g@a>r 3:e@a 3:e@a>q 4:e@a 4:e@a>q", "a", ""},
		{"on again by itself behind Once", watch("a", "p e * once: on p"), "1:e 2:e", "1:e@a 1:e@a>p 2:e@a 2:e@a>p", "a", ""},
		{"on by one ahead does not matter to Once", watch("a", "p e * always: on q", "q e * once"), "1:e 2:e", "1:e@a 1:e@a>p 1:e@a>q 2:e@a 2:e@a>p", "a", ""},
		{"on by one behind does", watch("a", "p e * once", "q e * always: on p"), "1:e 2:e", "1:e@a 1:e@a>p 1:e@a>q 2:e@a 2:e@a>p 2:e@a>q", "a", ""},
		{"off by itself", watch("a", "p e * always: off p"), "1:e 2:e", "1:e@a 1:e@a>p 2:e@a", "a", ""},
		{"on, and then off", watch("a", "p e * always: on p, off p"), "1:e 2:e", "1:e@a 1:e@a>p 2:e@a", "a", ""},
		{"off, and then on", watch("a", "p e * always: off p, on p"), "1:e 2:e", "1:e@a 1:e@a>p 2:e@a 2:e@a>p", "a", ""},
		{"off while it is off", watch("a", "p e * always: off q, off q", "q f * always", "r g * always: on q"), "1:e 1:e 2:f 3:g 4:f", "1:e@a 1:e@a>p 1:e@a 1:e@a>p 2:f@a 3:g@a 3:g@a>r 4:f@a 4:f@a>q", "a", ""},
		{"units", watch("a", "p e * always: switch-on v, switch-on u, switch-on p"), "1:e 2:e", "1:e@a 1:e@a>p 2:e@a 2:e@a>p", "a", "p u v"},
		{"units off again", watch("a", "p e * always: switch-on v, switch-on u, switch-off v, switch-off w", "q f * always: switch-off u, switch-on u"), "1:e 2:f", "1:e@a 1:e@a>p 2:f@a 2:f@a>q", "a", "u"},
		{"units in order of rules", watch("a", "p e * always: switch-on u", "q e * always: switch-off u", "r e * always: switch-on v"), "1:e", "1:e@a 1:e@a>p 1:e@a>q 1:e@a>r", "a", "v"},
		{"a unit with the name of a rule", watch("a", "p e * always: switch-off p"), "1:e 2:e", "1:e@a 1:e@a>p 2:e@a 2:e@a>p", "a", ""},
		{"an act for a rule is none for a unit", watch("a", "p e * always: on q, off q", "q f * always: switch-on x, raise x"), "1:e 2:f", "1:e@a 1:e@a>p 2:f@a", "a", ""},
		{"a raised event changes the mode back", watch("a b", "a e b", "b x a", "p e * always: raise x"), "1:e 2:e", "1:e@a 1:e@a>p 1:x@b 2:e@a 2:e@a>p 2:x@b", "a", ""},
	} {
		got, f := monitor.Play(c.watch, events(c.events))
		wantFault(t, c.name, f, api.OK)
		wantList(t, c.name, got, fired(c.want))
		mode, f := monitor.ModeAt(c.watch, events(c.events), api.MaxMoment)
		wantFault(t, c.name, f, api.OK)
		wantSame(t, c.name, mode, c.mode)
		units, f := monitor.UnitsOn(c.watch, events(c.events), api.MaxMoment)
		wantFault(t, c.name, f, api.OK)
		wantList(t, c.name, units, strings.Fields(c.units))
	}
}

func TestAtMoments(t *testing.T) {
	w := watch("a b c", "a e b", "b e c", "c e a", "p e a always: switch-on u", "q e b always: switch-on t", "r e c always: switch-off u")
	l := events("5:e 7:e 7:f 9:e 1000000000000:e")
	for at, want := range map[int]string{0: "a []", 4: "a []", 5: "b [u]", 6: "b [u]", 7: "c [t u]", 8: "c [t u]", 9: "a [t]", api.MaxMoment - 1: "a [t]", api.MaxMoment: "b [t u]"} {
		mode, f := monitor.ModeAt(w, l, at)
		wantFault(t, "ModeAt", f, api.OK)
		units, f := monitor.UnitsOn(w, l, at)
		wantFault(t, "UnitsOn", f, api.OK)
		wantSame(t, fmt.Sprint("at ", at), fmt.Sprint(mode, " ", units), want)
	}
}

// looping never ends by the event x.
func looping() api.Watch {
	return watch("a", "p x * always: raise y", "q y * always: raise x")
}

// TestNoEnd: ErrLoop, but of the events up to a moment alone.
func TestNoEnd(t *testing.T) {
	w := looping()
	for words, from := range map[string]int{"5:x": 5, "5:y": 5, "1:e 5:e 7:x 9:e": 7, "0:x": 0, "1000000000000:x": api.MaxMoment} {
		l := events(words)
		got, f := monitor.Play(w, l)
		wantFault(t, "Play "+words, fault(got, f), api.ErrLoop)
		for _, at := range []int{0, 1, 4, 5, 6, 7, 8, 9, api.MaxMoment - 1, api.MaxMoment} {
			mode, f := monitor.ModeAt(w, l, at)
			units, g := monitor.UnitsOn(w, l, at)
			if at >= from {
				wantFault(t, "ModeAt "+words, fault(mode, f), api.ErrLoop)
				wantFault(t, "UnitsOn "+words, fault(units, g), api.ErrLoop)
			} else {
				wantFault(t, "ModeAt "+words, f, api.OK)
				wantFault(t, "UnitsOn "+words, g, api.OK)
				wantSame(t, words, mode, "a")
			}
		}
	}
}

// leadingTo is a watch by which the event e leads to so many entries, about 10000: the last ones of them are some events, at most 10, by which no rule fires, or rules if there are none.
func leadingTo(entries, last int) api.Watch {
	// The rule of e raises f ten times, that of f raises g ten times; by each g nearly a hundred rules fire.
	w := watch("a", "p e * always", "q f * always", "q0 g * once")
	for range api.MaxActs {
		w.Rules[0].Acts = append(w.Rules[0].Acts, api.Act{Kind: api.ActRaise, Name: "f"})
		w.Rules[1].Acts = append(w.Rules[1].Acts, api.Act{Kind: api.ActRaise, Name: "g"})
	}
	for range last {
		w.Rules[2].Acts = append(w.Rules[2].Acts, api.Act{Kind: api.ActRaise, Name: "h"})
	}
	entries -= 2 + 10*2 + 100 + 1 + last
	for n := range entries / 100 {
		w.Rules = append(w.Rules, rule(fmt.Sprintf("r%03d g * always", n)))
	}
	for n := range entries % 100 {
		w.Rules = append(w.Rules, rule(fmt.Sprintf("s%03d e * always", n)))
	}
	return w
}

func TestMostEntriesOfAnEvent(t *testing.T) {
	for _, last := range []int{0, 1, 2, 10} {
		for _, many := range []int{api.MaxFired - 77, api.MaxFired - 1, api.MaxFired} {
			w := leadingTo(many, last)
			got, f := monitor.Play(w, events("5:e"))
			wantFault(t, "Play", f, api.OK)
			wantSame(t, "Play", len(got), many)
			wantSame(t, "the last one", got[many-1].Event == "h", last > 0)
			// Each event of the list has as many for itself.
			got, f = monitor.Play(w, events("5:e 5:e 6:g 7:e"))
			wantFault(t, "Play", f, api.OK)
			wantSame(t, "Play", len(got) > 3*(many-20), true)
			for of, f := range withWatch(w, events("5:e 5:e"), 5, "a", "a", nil) {
				wantFault(t, of, f, api.OK)
			}
		}
		for _, many := range []int{api.MaxFired + 1, api.MaxFired + 2, api.MaxFired + 50} {
			w := leadingTo(many, last)
			for of, f := range withWatch(w, events("1:y 5:e"), 5, "a", "a", nil) {
				want := api.OK
				if of == "Play" || of == "ModeAt" || of == "UnitsOn" {
					want = api.ErrLoop
				}
				wantFault(t, of, f, want)
			}
		}
	}
	got, f := monitor.Play(watch("a", "p x * always: raise x"), events("5:x"))
	wantFault(t, "a ring of one", fault(got, f), api.ErrLoop)
	// A rule that has fired once does not keep it going.
	got, f = monitor.Play(watch("a", "p x * once: raise x"), events("5:x"))
	wantFault(t, "a ring of one, once", f, api.OK)
	wantList(t, "a ring of one, once", got, fired("5:x@a 5:x@a>p 5:x@a"))
}

func TestPlayAsTheDocumentSays(t *testing.T) {
	r := rand.New(rand.NewSource(83))
	loops, rights := 0, 0
	for range 1500 {
		w := randomWatch(r, 3, 6, 5)
		l := randomEvents(r, 5, r.Intn(12))
		at := r.Intn(15)
		want, wantF := slowPlay(w, l, api.MaxMoment)
		got, f := monitor.Play(w, l)
		wantFault(t, "Play", fault(got, f), wantF)
		wantList(t, "Play", got, want.fired)
		want, wantF = slowPlay(w, l, at)
		mode, f := monitor.ModeAt(w, l, at)
		wantFault(t, "ModeAt", fault(mode, f), wantF)
		wantSame(t, "ModeAt", mode, want.Mode)
		units, f := monitor.UnitsOn(w, l, at)
		wantFault(t, "UnitsOn", fault(units, f), wantF)
		wantList(t, "UnitsOn", units, want.units)
		if wantF == api.OK {
			rights++
		} else {
			loops++
		}
	}
	if loops < 100 || rights < 100 {
		t.Error("too few of one kind:", loops, rights)
	}
}

// TestManyEvents are played at the bound, each one with nearly as many entries as there can be.
func TestManyEvents(t *testing.T) {
	w := leadingTo(api.MaxFired, 0)
	w.Rules[0].Acts = append(w.Rules[0].Acts[:9], api.Act{Kind: api.ActSwitch, Name: "u"})
	l := slices.Repeat(events("5:e"), api.MaxEvents/10)
	units, f := monitor.UnitsOn(w, l, 5)
	wantFault(t, "UnitsOn", f, api.OK)
	wantList(t, "UnitsOn", units, []string{"u"})
	fired, f := monitor.Play(watch("a", "p e * always"), slices.Repeat(events("5:e"), api.MaxEvents))
	wantFault(t, "Play", f, api.OK)
	wantSame(t, "Play", len(fired), 2*api.MaxEvents)
}
