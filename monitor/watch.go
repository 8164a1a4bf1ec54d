package monitor

import (
	"cmp"
	"slices"

	"perigee/api"
	"perigee/naming"
)

// CheckWatch says what is wrong with a watch.
func CheckWatch(w api.Watch) api.Fault {
	if len(w.Modes) == 0 {
		return api.ErrNone
	}
	if fault := checkNames(w.Modes, api.MaxModes); fault != api.OK {
		return fault
	}
	if fault := checkChanges(w); fault != api.OK {
		return fault
	}
	if !isMode(w, w.Mode) {
		return api.ErrNone
	}
	return checkRules(w)
}

// checkNames says what is wrong with a list of names, at most so many.
func checkNames(l []string, most int) api.Fault {
	if len(l) > most {
		return api.ErrLarge
	}
	for i, name := range l {
		if !naming.IsName(name) {
			return api.ErrName
		}
		if i > 0 && name <= l[i-1] {
			return api.ErrOrder
		}
	}
	return api.OK
}

func isMode(w api.Watch, name string) bool {
	_, ok := slices.BinarySearch(w.Modes, name)
	return ok
}

func checkChanges(w api.Watch) api.Fault {
	if len(w.Changes) > api.MaxChanges {
		return api.ErrLarge
	}
	for i, x := range w.Changes {
		switch {
		case !isMode(w, x.From) || !isMode(w, x.To):
			return api.ErrNone
		case !naming.IsName(x.Event):
			return api.ErrName
		case i > 0 && byFrom(w.Changes[i-1], x) >= 0:
			return api.ErrOrder
		}
	}
	return api.OK
}

func byFrom(x, y api.ModeChange) int {
	return cmp.Or(cmp.Compare(x.From, y.From), cmp.Compare(x.Event, y.Event))
}

func checkRules(w api.Watch) api.Fault {
	if len(w.Rules) > api.MaxRules {
		return api.ErrLarge
	}
	names := map[string]bool{}
	for i, x := range w.Rules {
		if fault := checkRule(w, x); fault != api.OK {
			return fault
		}
		if i > 0 && x.Name <= w.Rules[i-1].Name {
			return api.ErrOrder
		}
		names[x.Name] = true
	}
	for _, x := range w.Rules {
		if slices.ContainsFunc(x.Acts, func(a api.Act) bool { return ofRule(a) && !names[a.Name] }) {
			return api.ErrNone
		}
	}
	return api.OK
}

func ofRule(a api.Act) bool { return a.Kind == api.ActOn || a.Kind == api.ActOff }

// checkRule says what is wrong with a rule alone.
func checkRule(w api.Watch, x api.WatchRule) api.Fault {
	switch {
	case !naming.IsName(x.Name) || !naming.IsName(x.Event):
		return api.ErrName
	case x.Mode != "" && !isMode(w, x.Mode):
		return api.ErrNone
	case len(x.Acts) > api.MaxActs:
		return api.ErrLarge
	}
	for _, a := range x.Acts {
		switch {
		case !within(a.Kind, api.ActRaise, api.ActSwitch):
			return api.ErrKind
		case !naming.IsName(a.Name):
			return api.ErrName
		case a.Off && a.Kind != api.ActSwitch:
			return api.ErrForm
		}
	}
	return api.OK
}
