package telemetry

import (
	"cmp"
	"slices"
	"sort"

	"perigee/api"
	"perigee/ratio"
)

// second is the time of a line's rate.
const second = 1000

// CheckPlan says what is wrong with parameters, then with layouts, then with a plan.
func CheckPlan(p []api.Parameter, l []api.Layout, s []api.Regular) api.Fault {
	if fault := CheckLayouts(p, l); fault != api.OK {
		return fault
	}
	if len(s) > api.MaxSendings {
		return api.ErrLarge
	}
	for i, x := range s {
		_, ok := layoutOf(l, x.Layout)
		switch {
		case !ok:
			return api.ErrNone
		case !within(x.Every, 1, api.MaxEvery) || !within(x.Offset, 0, x.Every-1):
			return api.ErrRange
		case slices.Contains(s[:i], x):
			return api.ErrTwice
		}
	}
	return api.OK
}

// timesBefore returns how many times something is sent before a moment, which is not below 0.
func timesBefore(x api.Regular, at int) int {
	return (at - x.Offset + x.Every - 1) / x.Every
}

// times returns how many times something is sent from a moment up to another one; not above 0 if that is earlier.
func times(x api.Regular, from, to int) int { return timesBefore(x, to) - timesBefore(x, from) }

func allTimes(s []api.Regular, from, to int) int {
	many := 0
	for _, x := range s {
		many += times(x, from, to)
	}
	return many
}

// dues returns what is sent from a moment up to another one.
func dues(s []api.Regular, from, to int) []api.Due {
	var l []api.Due
	for _, x := range s {
		for at := x.Offset + timesBefore(x, from)*x.Every; at < to; at += x.Every {
			l = append(l, api.Due{At: at, Layout: x.Layout})
		}
	}
	slices.SortStableFunc(l, func(x, y api.Due) int { return cmp.Compare(x.At, y.At) })
	return l
}

// cycle returns the time after which a plan begins anew.
func cycle(s []api.Regular) (int, api.Fault) {
	long := 1
	for _, x := range s {
		long *= x.Every / ratio.Common(long, x.Every)
		if long > api.MaxCycle {
			return 0, api.ErrFull
		}
	}
	if allTimes(s, 0, long) > api.MaxDue {
		return 0, api.ErrLarge
	}
	return long, api.OK
}

// sizes returns how many bytes are sent each time, by the plan's order.
func sizes(p []api.Parameter, l []api.Layout, s []api.Regular) []int {
	var bytes []int
	for _, x := range s {
		layout, _ := layoutOf(l, x.Layout)
		bytes = append(bytes, bytesOf(bitsOf(partsOf(p, layout))))
	}
	return bytes
}

// Sent returns what is sent from a moment up to another one.
func Sent(p []api.Parameter, l []api.Layout, s []api.Regular, from, to int) ([]api.Due, api.Fault) {
	if fault := CheckPlan(p, l, s); fault != api.OK {
		return nil, fault
	}
	if !within(from, 0, api.MaxMoment) || !within(to, 0, api.MaxMoment) {
		return nil, api.ErrRange
	}
	if allTimes(s, from, to) > api.MaxDue {
		return nil, api.ErrLarge
	}
	return dues(s, from, to), api.OK
}

// Load returns the greatest number of bytes that are sent in any time of a length.
func Load(p []api.Parameter, l []api.Layout, s []api.Regular, span int) (int, api.Fault) {
	if fault := CheckPlan(p, l, s); fault != api.OK {
		return 0, fault
	}
	if !within(span, 1, api.MaxEvery) {
		return 0, api.ErrRange
	}
	long, fault := cycle(s)
	if fault != api.OK {
		return 0, fault
	}
	bytes := sizes(p, l, s)
	sentFrom := func(at int) int {
		sum := 0
		for i, x := range s {
			sum += times(x, at, at+span) * bytes[i]
		}
		return sum
	}
	// A time that begins when nothing is sent has no more than the one that begins when something is next.
	most := 0
	for _, x := range dues(s, 0, long) {
		most = max(most, sentFrom(x.At))
	}
	return most, api.OK
}

// Fastest returns the least Every for all of a plan by which the line's rate is kept, and false if there is none.
func Fastest(p []api.Parameter, l []api.Layout, s []api.Regular, rate int) (int, bool, api.Fault) {
	if fault := CheckPlan(p, l, s); fault != api.OK {
		return 0, false, fault
	}
	if !within(rate, 0, api.MaxLineRate) {
		return 0, false, api.ErrRange
	}
	sum := 0
	for _, many := range sizes(p, l, s) {
		sum += many
	}
	every := 1 + sort.Search(api.MaxEvery, func(i int) bool {
		return sum*times(api.Regular{Every: i + 1}, 0, second) <= rate
	})
	if every > api.MaxEvery {
		return 0, false, api.OK
	}
	return every, true, api.OK
}

// Oldest returns how old the latest value of a parameter can be at most, and false if it is not sent.
func Oldest(p []api.Parameter, l []api.Layout, s []api.Regular, name string) (int, bool, api.Fault) {
	if fault := CheckPlan(p, l, s); fault != api.OK {
		return 0, false, fault
	}
	var telling []api.Regular
	for _, x := range s {
		if layout, _ := layoutOf(l, x.Layout); slices.Contains(layout.Parts, name) {
			telling = append(telling, x)
		}
	}
	long, fault := cycle(telling)
	if fault != api.OK {
		return 0, false, fault
	}
	if _, ok := placeOf(p, name); !ok {
		return 0, false, api.ErrNone
	}
	told := dues(telling, 0, long)
	if len(told) == 0 {
		return 0, false, api.OK
	}
	oldest, before := 0, told[len(told)-1].At-long
	for _, x := range told {
		oldest, before = max(oldest, x.At-before), x.At
	}
	return oldest, true, api.OK
}
