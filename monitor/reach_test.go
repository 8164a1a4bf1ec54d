package monitor_test

import (
	"fmt"
	"math/rand"
	"slices"
	"strings"
	"testing"

	"perigee/api"
	"perigee/monitor"
)

// F5.
func TestReachedAndTraps(t *testing.T) {
	for _, c := range []struct {
		name  string
		watch api.Watch
		// of each mode in order those that can be reached, without commas
		want []string
	}{
		{"one mode", watch("a"), []string{"a"}},
		{"to itself", watch("a b", "a e a"), []string{"a", "b"}},
		{"a row", watch("a b c", "a e b", "b e c"), []string{"a b c", "b c", "c"}},
		{"a row back", watch("a b c", "b e a", "c e b"), []string{"a", "a b", "a b c"}},
		{"a ring", watch("a b c", "a e b", "b e c", "c e a"), []string{"a b c", "a b c", "a b c"}},
		{"two parts", watch("a b c d", "a e c", "c e a", "d e b"), []string{"a c", "b", "a c", "b d"}},
		{"several events", watch("a b c d", "a e b", "a f c", "b e d", "c e d", "c f d"), []string{"a b c d", "b d", "c d", "d"}},
		{"the mode to begin with does not matter", api.Watch{Modes: []string{"a", "b"}, Mode: "b", Changes: []api.ModeChange{{From: "a", Event: "e", To: "b"}}}, []string{"a b", "b"}},
		{"rules do not matter", watch("a b c", "a e b", "p e a always: raise f, switch-on c"), []string{"a b", "b", "c"}},
	} {
		for i, from := range c.watch.Modes {
			got, f := monitor.Reached(c.watch, from)
			wantFault(t, c.name, f, api.OK)
			wantList(t, c.name+" from "+from, got, strings.Fields(c.want[i]))
			var traps []string
			for j, mode := range c.watch.Modes {
				if !slices.Contains(strings.Fields(c.want[j]), from) {
					traps = append(traps, mode)
				}
			}
			got, f = monitor.Traps(c.watch, from)
			wantFault(t, c.name, f, api.OK)
			wantList(t, c.name+": traps of "+from, got, traps)
		}
	}
}

func TestWays(t *testing.T) {
	for _, c := range []struct {
		name, from, to, want string
		watch                api.Watch
	}{
		{"to itself", "a", "a", "yes", watch("a b", "a e a", "a f b", "b e a")},
		{"one event", "a", "b", "yes e", watch("a b", "a e b")},
		{"not back", "b", "a", "no", watch("a b", "a e b")},
		{"no changes", "a", "b", "no", watch("a b")},
		{"the lesser event", "a", "b", "yes e", watch("a b", "a e b", "a f b")},
		{"as few as possible", "a", "c", "yes z", watch("a b c", "a e b", "a z c", "b e c")},
		{"the least list by its first name", "a", "d", "yes e z", watch("a b c d", "a e c", "a f b", "b a d", "c z d")},
		{"the least list by its last name", "a", "d", "yes e a", watch("a b c d", "a e b", "a f c", "b a d", "b b d", "c a d")},
		{"name by name, not byte by byte", "a", "d", "yes e z", watch("a b c d", "a e c", "a e- b", "b a d", "c z d")},
		{"the first steps decide", "a", "f", "yes e y z", watch("a b c d e f", "a e d", "a f b", "b a c", "c a f", "d y e", "e z f")},
		{"over the mode to begin with", "c", "b", "yes f e", watch("a b c", "a e b", "c f a")},
		{"through many", "a", "e", "yes x x x x", watch("a b c d e", "a w a", "a x b", "b w a", "b x c", "c w a", "c x d", "d w a", "d x e")},
	} {
		got, is, f := monitor.Ways(c.watch, c.from, c.to)
		wantFault(t, c.name, f, api.OK)
		wantSame(t, c.name, is, strings.HasPrefix(c.want, "yes"))
		wantList(t, c.name, got, strings.Fields(c.want)[1:])
	}
}

func TestErrorsOfModes(t *testing.T) {
	for _, w := range []api.Watch{rightWatch(), looping()} {
		for _, name := range append([]string{"aa", "d", "e", "p", "?"}, noNames...) {
			for of, f := range withWatch(w, nil, 0, name, "a", nil) {
				want := api.OK
				if of == "Reached" || of == "Ways" || of == "Traps" {
					want = api.ErrNone
				}
				wantFault(t, of+" "+name, f, want)
			}
			for of, f := range withWatch(w, nil, 0, "a", name, nil) {
				want := api.OK
				if of == "Ways" {
					want = api.ErrNone
				}
				wantFault(t, of+" "+name, f, want)
			}
		}
	}
}

func TestWaysAsTheDocumentSays(t *testing.T) {
	r := rand.New(rand.NewSource(84))
	for range 1000 {
		w := randomWatch(r, 5, 3, 3)
		for _, from := range w.Modes {
			reached, f := monitor.Reached(w, from)
			wantFault(t, "Reached", f, api.OK)
			traps, f := monitor.Traps(w, from)
			wantFault(t, "Traps", f, api.OK)
			var wantReached, wantTraps []string
			for _, to := range w.Modes {
				got, is, f := monitor.Ways(w, from, to)
				wantFault(t, "Ways", f, api.OK)
				want, wantIs := slowWays(w, from, to)
				wantSame(t, "Ways", is, wantIs)
				wantList(t, "Ways", got, want)
				if is {
					wantReached = append(wantReached, to)
				}
				if _, is := slowWays(w, to, from); !is {
					wantTraps = append(wantTraps, to)
				}
				wantWay(t, w, from, to, got, is)
			}
			wantList(t, "Reached", reached, wantReached)
			wantList(t, "Traps", traps, wantTraps)
		}
	}
}

// wantWay plays the events of a way, without the rules.
func wantWay(t *testing.T, w api.Watch, from, to string, way []string, is bool) {
	t.Helper()
	if !is {
		return
	}
	w.Mode, w.Rules = from, nil
	var l []api.Event
	for at, name := range way {
		l = append(l, api.Event{At: at, Name: name})
	}
	mode, f := monitor.ModeAt(w, l, api.MaxMoment)
	wantFault(t, "ModeAt", f, api.OK)
	wantSame(t, "ModeAt", mode, to)
}

// TestMostModes are reached at the bound.
func TestMostModes(t *testing.T) {
	w := api.Watch{Modes: named(api.MaxModes), Mode: "a0000"}
	for i, from := range w.Modes {
		for n := range api.MaxChanges / api.MaxModes {
			w.Changes = append(w.Changes, api.ModeChange{From: from, Event: fmt.Sprint("e", n), To: w.Modes[min(i+1, api.MaxModes-1)]})
		}
	}
	last := w.Modes[api.MaxModes-1]
	got, is, f := monitor.Ways(w, "a0000", last)
	wantFault(t, "Ways", f, api.OK)
	wantSame(t, "Ways", is, true)
	wantList(t, "Ways", got, slices.Repeat([]string{"e0"}, api.MaxModes-1))
	got, f = monitor.Reached(w, "a0000")
	wantFault(t, "Reached", f, api.OK)
	wantList(t, "Reached", got, w.Modes)
	got, f = monitor.Traps(w, "a0000")
	wantFault(t, "Traps", f, api.OK)
	wantList(t, "Traps", got, w.Modes[1:])
}
