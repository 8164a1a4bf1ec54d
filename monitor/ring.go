package monitor

import (
	"slices"

	"perigee/api"
)

// settingOff returns the steps from each rule to those that it sets off, by their names.
func settingOff(w api.Watch) func(string) []step {
	byEvent := map[string][]string{}
	for _, x := range w.Rules {
		byEvent[x.Event] = append(byEvent[x.Event], x.Name)
	}
	steps := map[string][]step{}
	for _, x := range w.Rules {
		var names []string
		for _, a := range x.Acts {
			if a.Kind == api.ActRaise {
				names = append(names, byEvent[a.Name]...)
			}
		}
		slices.Sort(names)
		for _, name := range slices.Compact(names) {
			steps[x.Name] = append(steps[x.Name], step{by: name, to: name})
		}
	}
	return func(rule string) []step { return steps[rule] }
}

// Loops returns the smallest ring of rules of which each one sets off the next one, and false if there is none.
func Loops(w api.Watch) ([]string, bool, api.Fault) {
	if fault := CheckWatch(w); fault != api.OK {
		return nil, false, fault
	}
	steps := settingOff(w)
	var ring []string
	for _, x := range w.Rules {
		l := ringFrom(x.Name, steps)
		if l != nil && (ring == nil || len(l) < len(ring)) {
			ring = l
		}
	}
	return ring, ring != nil, api.OK
}

// ringFrom returns the smallest ring of which a rule has the least name, and nil if there is none.
func ringFrom(least string, steps func(string) []step) []string {
	without := func(rule string) []step {
		return slices.DeleteFunc(slices.Clone(steps(rule)), func(x step) bool { return x.to < least })
	}
	for t := range walk(least, without) {
		if slices.Contains(steps(t.to), step{by: least, to: least}) {
			return append([]string{least}, t.names()...)
		}
	}
	return nil
}

// Never returns the rules that cannot fire if no other events than some come from outside.
func Never(w api.Watch, events []string) ([]string, api.Fault) {
	if fault := CheckWatch(w); fault != api.OK {
		return nil, fault
	}
	if fault := checkNames(events, api.MaxRules); fault != api.OK {
		return nil, fault
	}
	can := map[string]bool{}
	steps := settingOff(w)
	for _, x := range w.Rules {
		if _, ok := slices.BinarySearch(events, x.Event); ok && !can[x.Name] {
			for t := range walk(x.Name, steps) {
				can[t.to] = true
			}
		}
	}
	var l []string
	for _, x := range w.Rules {
		if !can[x.Name] {
			l = append(l, x.Name)
		}
	}
	return l, api.OK
}
