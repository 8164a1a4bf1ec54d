// Package power follows the battery between the sun and the loads, says which loads break a bar together, and plans which ones are on.
package power

import (
	"perigee/api"
)

func within(n, least, most int) bool { return n >= least && n <= most }

func isMoment(n int) bool { return within(n, 0, api.MaxMoment) }

// checkTime says what is wrong with the time from a moment up to another one.
func checkTime(from, to int) api.Fault {
	switch {
	case !isMoment(from) || !isMoment(to):
		return api.ErrRange
	case to <= from:
		return api.ErrZero
	}
	return api.OK
}

// CheckSun says what is wrong with the times of the sun.
func CheckSun(s []api.Span) api.Fault {
	if len(s) > api.MaxSpansOf {
		return api.ErrLarge
	}
	for i, x := range s {
		if fault := checkTime(x.From, x.To); fault != api.OK {
			return fault
		}
		if i > 0 && x.From <= s[i-1].To {
			return api.ErrOrder
		}
	}
	return api.OK
}

// Sunny returns how many milliseconds of sun there are from a moment up to another one.
func Sunny(s []api.Span, from, to int) (int, api.Fault) {
	if fault := CheckSun(s); fault != api.OK {
		return 0, fault
	}
	if !isMoment(from) || !isMoment(to) {
		return 0, api.ErrRange
	}
	many := 0
	for _, x := range s {
		many += max(0, min(x.To, to)-max(x.From, from))
	}
	return many, api.OK
}
