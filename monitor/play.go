package monitor

import (
	"maps"
	"slices"

	"perigee/api"
	"perigee/naming"
)

// CheckEvents says what is wrong with events.
func CheckEvents(l []api.Event) api.Fault {
	if len(l) > api.MaxEvents {
		return api.ErrLarge
	}
	for i, x := range l {
		switch {
		case !within(x.At, 0, api.MaxMoment):
			return api.ErrRange
		case !naming.IsName(x.Name):
			return api.ErrName
		case i > 0 && x.At < l[i-1].At:
			return api.ErrOrder
		}
	}
	return api.OK
}

// arrival is an event that comes in a mode.
type arrival struct{ mode, event string }

// board is a watch while events come.
type board struct {
	changes map[arrival]string
	rules   map[string][]api.WatchRule // by their Event, in order of names
	mode    string
	off     map[string]bool // rules
	on      map[string]bool // units
	raised  []string
	tell    func(api.Fired)
}

func newBoard(w api.Watch, tell func(api.Fired)) board {
	b := board{changes: map[arrival]string{}, rules: map[string][]api.WatchRule{}, mode: w.Mode, off: map[string]bool{}, on: map[string]bool{}, tell: tell}
	for _, x := range w.Changes {
		b.changes[arrival{x.From, x.Event}] = x.To
	}
	for _, x := range w.Rules {
		b.rules[x.Event] = append(b.rules[x.Event], x)
	}
	return b
}

// play lets an event of the list come, and then all that are raised by it.
func (b *board) play(x api.Event) api.Fault {
	left := api.MaxFired
	for b.raised = []string{x.Name}; len(b.raised) > 0; {
		came := api.Fired{At: x.At, Event: b.raised[0], Mode: b.mode}
		b.raised = b.raised[1:]
		rules := b.firing(came.Event)
		left -= 1 + len(rules)
		if left < 0 {
			return api.ErrLoop
		}
		b.come(came, rules)
	}
	return api.OK
}

// firing returns the rules that fire if an event comes now.
func (b *board) firing(event string) []api.WatchRule {
	var rules []api.WatchRule
	for _, x := range b.rules[event] {
		if !b.off[x.Name] && (x.Mode == "" || x.Mode == b.mode) {
			rules = append(rules, x)
		}
	}
	return rules
}

// come lets one event come, with the rules that fire by it.
func (b *board) come(came api.Fired, rules []api.WatchRule) {
	b.tell(came)
	if to, ok := b.changes[arrival{came.Mode, came.Event}]; ok {
		b.mode = to
	}
	for _, x := range rules {
		fired := came
		fired.Rule = x.Name
		b.tell(fired)
		if x.Once {
			b.off[x.Name] = true
		}
		for _, a := range x.Acts {
			b.act(a)
		}
	}
}

func (b *board) act(a api.Act) {
	switch a.Kind {
	case api.ActRaise:
		b.raised = append(b.raised, a.Name)
	case api.ActOn, api.ActOff:
		b.off[a.Name] = a.Kind == api.ActOff
	case api.ActSwitch:
		b.on[a.Name] = true
		if a.Off {
			delete(b.on, a.Name)
		}
	}
}

// played lets all events up to a moment come.
func played(w api.Watch, l []api.Event, until int, tell func(api.Fired)) (board, api.Fault) {
	if fault := CheckWatch(w); fault != api.OK {
		return board{}, fault
	}
	if fault := CheckEvents(l); fault != api.OK {
		return board{}, fault
	}
	if !within(until, 0, api.MaxMoment) {
		return board{}, api.ErrRange
	}
	b := newBoard(w, tell)
	for _, x := range l {
		if x.At > until {
			break
		}
		if fault := b.play(x); fault != api.OK {
			return board{}, fault
		}
	}
	return b, api.OK
}

// Play lets all events come, and returns what happened.
func Play(w api.Watch, l []api.Event) ([]api.Fired, api.Fault) {
	var fired []api.Fired
	_, fault := played(w, l, api.MaxMoment, func(x api.Fired) { fired = append(fired, x) })
	if fault != api.OK {
		return nil, fault
	}
	return fired, api.OK
}

// boardAt lets all events up to a moment come, without telling of it.
func boardAt(w api.Watch, l []api.Event, at int) (board, api.Fault) {
	return played(w, l, at, func(api.Fired) {})
}

// ModeAt returns the mode behind all events up to a moment.
func ModeAt(w api.Watch, l []api.Event, at int) (string, api.Fault) {
	b, fault := boardAt(w, l, at)
	return b.mode, fault
}

// UnitsOn returns the units that are on behind all events up to a moment.
func UnitsOn(w api.Watch, l []api.Event, at int) ([]string, api.Fault) {
	b, fault := boardAt(w, l, at)
	return slices.Sorted(maps.Keys(b.on)), fault
}
