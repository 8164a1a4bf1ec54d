package monitor

import (
	"iter"
	"slices"

	"perigee/api"
)

// step leads from one place to another one, by a name.
type step struct{ by, to string }

// trail leads to a place, by the last step of it, and the trail before this one (nil: it begins here).
type trail struct {
	step
	before *trail
}

// names returns the names of the steps, in order.
func (t *trail) names() []string {
	var l []string
	for ; t.before != nil; t = t.before {
		l = append(l, t.by)
	}
	slices.Reverse(l)
	return l
}

// walk goes to each place to which steps lead, the first one among them, on the trail with the fewest steps; of several on that with the least names, if the steps from each place are in order of names. Shorter trails come first, then those with the least names.
func walk(from string, steps func(string) []step) iter.Seq[*trail] {
	return func(yield func(*trail) bool) {
		seen := map[string]bool{from: true}
		for next := []*trail{{step: step{to: from}}}; len(next) > 0; next = next[1:] {
			if !yield(next[0]) {
				return
			}
			for _, x := range steps(next[0].to) {
				if !seen[x.to] {
					seen[x.to] = true
					next = append(next, &trail{step: x, before: next[0]})
				}
			}
		}
	}
}

// places returns all places to which steps lead.
func places(from string, steps func(string) []step) map[string]bool {
	l := map[string]bool{}
	for t := range walk(from, steps) {
		l[t.to] = true
	}
	return l
}

// stepsOf returns the steps from each mode by the changes, or those back to it, in no order then.
func stepsOf(w api.Watch, back bool) func(string) []step {
	steps := map[string][]step{}
	for _, x := range w.Changes {
		from, to := x.From, x.To
		if back {
			from, to = to, from
		}
		steps[from] = append(steps[from], step{by: x.Event, to: to})
	}
	return func(mode string) []step { return steps[mode] }
}

// checkModes says what is wrong with a watch, then with names of its modes.
func checkModes(w api.Watch, names ...string) api.Fault {
	if fault := CheckWatch(w); fault != api.OK {
		return fault
	}
	for _, name := range names {
		if !isMode(w, name) {
			return api.ErrNone
		}
	}
	return api.OK
}

// Reached returns the modes that can be reached from one.
func Reached(w api.Watch, from string) ([]string, api.Fault) {
	if fault := checkModes(w, from); fault != api.OK {
		return nil, fault
	}
	reached := places(from, stepsOf(w, false))
	return slices.DeleteFunc(slices.Clone(w.Modes), func(mode string) bool { return !reached[mode] }), api.OK
}

// Ways returns the fewest events by which one comes from a mode to another one, and false if there are none.
func Ways(w api.Watch, from, to string) ([]string, bool, api.Fault) {
	if fault := checkModes(w, from, to); fault != api.OK {
		return nil, false, fault
	}
	for t := range walk(from, stepsOf(w, false)) {
		if t.to == to {
			return t.names(), true, api.OK
		}
	}
	return nil, false, api.OK
}

// Traps returns the modes from which a mode cannot be reached.
func Traps(w api.Watch, safe string) ([]string, api.Fault) {
	if fault := checkModes(w, safe); fault != api.OK {
		return nil, fault
	}
	leading := places(safe, stepsOf(w, true))
	return slices.DeleteFunc(slices.Clone(w.Modes), func(mode string) bool { return leading[mode] }), api.OK
}
