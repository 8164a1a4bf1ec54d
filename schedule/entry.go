// Package schedule keeps commands that wait on board for their moments, follows what becomes of them, and steps through procedures that wait, branch and call.
package schedule

import (
	"cmp"
	"slices"

	"perigee/api"
	"perigee/naming"
	"perigee/textline"
)

func within(n, least, most int) bool { return n >= least && n <= most }

func isNameOrEmpty(s string) bool { return s == "" || naming.IsName(s) }

func isCommand(s string) bool {
	return len(s) <= api.MaxCommand && textline.IsText(s) && s[0] != ' ' && s[len(s)-1] != ' '
}

// CheckEntries says what is wrong with a schedule.
func CheckEntries(l []api.Entry) api.Fault {
	if len(l) > api.MaxEntries {
		return api.ErrLarge
	}
	ids := map[int]bool{}
	for i, x := range l {
		if fault := checkEntry(x); fault != api.OK {
			return fault
		}
		if i > 0 && inOrder(l[i-1], x) >= 0 {
			return api.ErrOrder
		}
		ids[x.Id] = true
	}
	if len(ids) < len(l) {
		return api.ErrTwice
	}
	if groups(l) > api.MaxGroups {
		return api.ErrLarge
	}
	return api.OK
}

// checkEntry says what is wrong with an entry alone.
func checkEntry(x api.Entry) api.Fault {
	switch {
	case !within(x.Id, 1, api.MaxMoment) || !within(x.At, 0, api.MaxMoment):
		return api.ErrRange
	case !isCommand(x.Command):
		return api.ErrForm
	case !isNameOrEmpty(x.Group) || !isNameOrEmpty(x.If):
		return api.ErrName
	case x.Not && x.If == "":
		return api.ErrForm
	}
	return api.OK
}

func inOrder(x, y api.Entry) int {
	return cmp.Or(cmp.Compare(x.At, y.At), cmp.Compare(x.Id, y.Id))
}

// groups counts the different groups of a schedule.
func groups(l []api.Entry) int {
	names := map[string]bool{}
	for _, x := range l {
		if x.Group != "" {
			names[x.Group] = true
		}
	}
	return len(names)
}

func withId(id int) func(api.Entry) bool {
	return func(x api.Entry) bool { return x.Id == id }
}

func inGroup(group string) func(api.Entry) bool {
	return func(x api.Entry) bool { return group == "" || x.Group == group }
}

// Put returns the schedule with one entry more.
func Put(l []api.Entry, x api.Entry) ([]api.Entry, api.Fault) {
	if fault := CheckEntries(l); fault != api.OK {
		return nil, fault
	}
	if fault := checkEntry(x); fault != api.OK {
		return nil, fault
	}
	return put(l, x)
}

func put(l []api.Entry, x api.Entry) ([]api.Entry, api.Fault) {
	if slices.ContainsFunc(l, withId(x.Id)) {
		return nil, api.ErrTwice
	}
	at, _ := slices.BinarySearchFunc(l, x, inOrder)
	out := slices.Insert(slices.Clone(l), at, x)
	if len(out) > api.MaxEntries || groups(out) > api.MaxGroups {
		return nil, api.ErrLarge
	}
	return out, api.OK
}

// Drop returns the schedule without an entry.
func Drop(l []api.Entry, id int) ([]api.Entry, api.Fault) {
	if fault := CheckEntries(l); fault != api.OK {
		return nil, fault
	}
	return drop(l, id)
}

func drop(l []api.Entry, id int) ([]api.Entry, api.Fault) {
	if !slices.ContainsFunc(l, withId(id)) {
		return nil, api.ErrNone
	}
	return slices.DeleteFunc(slices.Clone(l), withId(id)), api.OK
}

// Shift returns the schedule with a group's entries later.
func Shift(l []api.Entry, group string, by int) ([]api.Entry, api.Fault) {
	if fault := CheckEntries(l); fault != api.OK {
		return nil, fault
	}
	if fault := checkShift(group, by); fault != api.OK {
		return nil, fault
	}
	return shift(l, inGroup(group), by)
}

func checkShift(group string, by int) api.Fault {
	if !isNameOrEmpty(group) {
		return api.ErrName
	}
	if !within(by, -api.MaxShift, api.MaxShift) {
		return api.ErrRange
	}
	return api.OK
}

// shift returns the schedule with the entries that are meant later.
func shift(l []api.Entry, meant func(api.Entry) bool, by int) ([]api.Entry, api.Fault) {
	out := slices.Clone(l)
	for i, x := range out {
		if !meant(x) {
			continue
		}
		if !within(x.At+by, 0, api.MaxMoment) {
			return nil, api.ErrRange
		}
		out[i].At += by
	}
	slices.SortFunc(out, inOrder)
	return out, api.OK
}

// Next returns the first entry at a moment or later, and false if there is none.
func Next(l []api.Entry, at int) (api.Entry, bool, api.Fault) {
	if fault := CheckEntries(l); fault != api.OK {
		return api.Entry{}, false, fault
	}
	if !within(at, 0, api.MaxMoment) {
		return api.Entry{}, false, api.ErrRange
	}
	i := slices.IndexFunc(l, func(x api.Entry) bool { return x.At >= at })
	if i < 0 {
		return api.Entry{}, false, api.OK
	}
	return l[i], true, api.OK
}
