package power

import (
	"perigee/api"
)

// Follow returns the levels at 0, at each moment from which on the level changes by something else, and at the last one.
func Follow(c api.Cell, s []api.Span, l []api.Load, u []api.Use, until int) ([]api.Level, api.Fault) {
	f, fault := checkedFlow(c, s, l, u, until)
	if fault != api.OK {
		return nil, fault
	}
	return f.course(all).levels(c.Level), api.OK
}

// LevelAt returns the level at a moment.
func LevelAt(c api.Cell, s []api.Span, l []api.Load, u []api.Use, at int) (int, api.Fault) {
	levels, fault := Follow(c, s, l, u, at)
	if fault != api.OK {
		return 0, fault
	}
	return levels[len(levels)-1].Level, api.OK
}

// Lowest returns the least level, and the first moment with it.
func Lowest(c api.Cell, s []api.Span, l []api.Load, u []api.Use, until int) (int, int, api.Fault) {
	f, fault := checkedFlow(c, s, l, u, until)
	if fault != api.OK {
		return 0, 0, fault
	}
	way := f.course(all)
	// Between two turns the level is never below both.
	least := c.Level
	for _, x := range way.levels(c.Level) {
		least = min(least, x.Level)
	}
	at, _ := way.firstBelow(least+1, c.Level)
	return least, at, api.OK
}

// Empty returns the first moment at which the level is below the floor, and false if there is none.
func Empty(c api.Cell, s []api.Span, l []api.Load, u []api.Use, until int) (int, bool, api.Fault) {
	f, fault := checkedFlow(c, s, l, u, until)
	if fault != api.OK {
		return 0, false, fault
	}
	at, is := f.course(all).empty()
	return at, is, api.OK
}
