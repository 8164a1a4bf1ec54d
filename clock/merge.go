package clock

import (
	"cmp"
	"slices"

	"perigee/api"
)

// Merged returns the marks of both lists, equal ones once.
func Merged(a, b []api.Mark) ([]api.Mark, api.Fault) {
	if f := CheckMarks(a); f != api.OK {
		return nil, f
	}
	if f := CheckMarks(b); f != api.OK {
		return nil, f
	}
	m := slices.Concat(a, b)
	slices.SortFunc(m, func(x, y api.Mark) int { return cmp.Compare(x.Tick, y.Tick) })
	m = slices.Compact(m)
	for i := range len(m) - 1 {
		if m[i].Tick == m[i+1].Tick {
			return nil, api.ErrClash
		}
	}
	if f := CheckMarks(m); f != api.OK {
		return nil, f
	}
	return m, api.OK
}

// Thin returns fewer marks, such that lines through them are at most most away from those that are left out.
func Thin(m []api.Mark, most int) ([]api.Mark, api.Fault) {
	if f := CheckMarks(m); f != api.OK {
		return nil, f
	}
	if !upTo(most, api.MaxOff) {
		return nil, api.ErrRange
	}
	out := []api.Mark{m[0]}
	for i := 0; i < len(m)-1; {
		i += farthest(m[i:], most)
		out = append(out, m[i])
	}
	return out, api.OK
}

// farthest returns the number of the last mark to which the line from the first one passes all marks between closely enough.
//
// Each mark that is passed bounds how steep the line can be: what it says there, rounded, is at most most away just if it is itself from most and a half below up to most and a half above (not with it, as a half is rounded up). All that is doubled here, so that halves are whole numbers.
func farthest(m []api.Mark, most int) int {
	far := 0
	least, limit := api.Share{Num: 0, Den: 1}, api.Share{Num: 1, Den: 0}
	for i, x := range m[1:] {
		slope := rate(m[0], x)
		rise := 2 * slope.Num
		slope.Num = rise
		if !below(slope, least) && below(slope, limit) {
			far = i + 1
		}
		// The line rises, so that a bound below 0 is none.
		low := api.Share{Num: max(0, rise-2*most-1), Den: slope.Den}
		if below(least, low) {
			least = low
		}
		high := api.Share{Num: rise + 2*most + 1, Den: slope.Den}
		if below(high, limit) {
			limit = high
		}
	}
	return far
}
