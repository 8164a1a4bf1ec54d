package schedule

import (
	"perigee/api"
	"perigee/naming"
)

// CheckChanges says what is wrong with changes.
func CheckChanges(l []api.Change) api.Fault {
	if len(l) > api.MaxEntries {
		return api.ErrLarge
	}
	for i, c := range l {
		if fault := checkChange(c); fault != api.OK {
			return fault
		}
		if i > 0 && c.At < l[i-1].At {
			return api.ErrOrder
		}
	}
	return api.OK
}

// checkChange says what is wrong with a change alone.
func checkChange(c api.Change) api.Fault {
	switch {
	case !within(c.At, 0, api.MaxMoment):
		return api.ErrRange
	case !within(c.Kind, api.ChangePut, api.ChangeOff):
		return api.ErrKind
	case c != ofItsKind(c):
		return api.ErrForm
	}
	switch c.Kind {
	case api.ChangePut:
		return checkEntry(c.Entry)
	case api.ChangeShift:
		return checkShift(c.Group, c.By)
	case api.ChangeOn, api.ChangeOff:
		if !naming.IsName(c.Group) {
			return api.ErrName
		}
		return api.OK
	}
	// A ChangeDrop has no By.
	if !within(c.Id, 1, api.MaxMoment) || !within(c.By, -api.MaxShift, api.MaxShift) {
		return api.ErrRange
	}
	return api.OK
}

// ofItsKind returns a change with those fields alone that its Kind has.
func ofItsKind(c api.Change) api.Change {
	x := api.Change{At: c.At, Kind: c.Kind}
	switch c.Kind {
	case api.ChangePut:
		x.Entry = c.Entry
	case api.ChangeDrop:
		x.Id = c.Id
	case api.ChangeMove:
		x.Id, x.By = c.Id, c.By
	case api.ChangeShift:
		x.Group, x.By = c.Group, c.By
	case api.ChangeOn, api.ChangeOff:
		x.Group = c.Group
	}
	return x
}
