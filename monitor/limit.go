// Package monitor follows what is measured by limits, lets rules act on events in modes, and says which modes can be reached, and which rules set each other off.
package monitor

import (
	"cmp"
	"slices"

	"perigee/api"
	"perigee/naming"
)

func within(n, least, most int) bool { return n >= least && n <= most }

func isValue(n int) bool { return within(n, -api.MaxValue, api.MaxValue) }

// CheckLimits says what is wrong with limits.
func CheckLimits(l []api.Limit) api.Fault {
	if len(l) > api.MaxLimits {
		return api.ErrLarge
	}
	for i, x := range l {
		if fault := checkLimit(x); fault != api.OK {
			return fault
		}
		if i > 0 && x.Param <= l[i-1].Param {
			return api.ErrOrder
		}
	}
	return api.OK
}

// checkLimit says what is wrong with a limit alone.
func checkLimit(x api.Limit) api.Fault {
	bounds := []int{x.LowLow, x.Low, x.High, x.HighHigh}
	switch {
	case !naming.IsName(x.Param):
		return api.ErrName
	case !isValue(slices.Min(bounds)) || !isValue(slices.Max(bounds)):
		return api.ErrRange
	case !slices.IsSorted(bounds):
		return api.ErrOrder
	case !within(x.Count, 1, api.MaxRepeats) || !within(x.Clear, 1, api.MaxRepeats) || !within(x.Back, 0, api.MaxValue):
		return api.ErrRange
	}
	return api.OK
}

// CheckSamples says what is wrong with samples.
func CheckSamples(l []api.Sample) api.Fault {
	if len(l) > api.MaxSamples {
		return api.ErrLarge
	}
	for i, x := range l {
		switch {
		case !within(x.At, 0, api.MaxMoment):
			return api.ErrRange
		case !naming.IsName(x.Param):
			return api.ErrName
		case !isValue(x.Value):
			return api.ErrRange
		case i > 0 && inOrder(l[i-1], x) >= 0:
			return api.ErrOrder
		}
	}
	return api.OK
}

func inOrder(x, y api.Sample) int {
	return cmp.Or(cmp.Compare(x.At, y.At), cmp.Compare(x.Param, y.Param))
}

// StateOf returns the state of a value by itself.
func StateOf(x api.Limit, value int) (int, api.Fault) {
	if fault := checkLimit(x); fault != api.OK {
		return 0, fault
	}
	if !isValue(value) {
		return 0, api.ErrRange
	}
	return stateOf(x, value), api.OK
}

func stateOf(x api.Limit, value int) int {
	switch {
	case !within(value, x.LowLow, x.HighHigh):
		return api.WatchAlarm
	case !within(value, x.Low, x.High):
		return api.WatchWarn
	}
	return api.WatchGood
}
