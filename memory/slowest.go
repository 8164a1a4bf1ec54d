package memory

import (
	"slices"

	"perigee/api"
)

// Slowest returns the greatest Every, up to most, with which each word is read as it was written at a moment.
func Slowest(b api.Bank, r api.Round, l []api.Flip, until, most int) (int, bool, api.Fault) {
	if f := checkSlowest(b, r.Many, l, until, most); f != api.OK {
		return 0, false, f
	}
	var right []int
	for _, w := range b.Saved {
		right = append(right, coded(w))
	}
	s := scrubber{codes: slices.Clone(b.Codes)}
	// Without a round up to until nothing depends on Every, so that one above until stands for all of them.
	for every := most; every >= 1; every = min(every-1, until) {
		copy(s.codes, b.Codes)
		s.next, s.done = 0, s.done[:0]
		s.run(api.Round{Every: every, Many: r.Many}, l, until)
		if readAs(s.codes, right) {
			return every, true, api.OK
		}
	}
	return 0, false, api.OK
}

func checkSlowest(b api.Bank, many int, l []api.Flip, until, most int) api.Fault {
	if f := CheckFlips(b, l); f != api.OK {
		return f
	}
	switch {
	case !within(many, 1, api.MaxScrub), !within(until, 0, api.MaxMoment):
		return api.ErrRange
	case until*many > api.MaxSearch:
		return api.ErrLarge
	case !within(most, 1, api.MaxMoment):
		return api.ErrRange
	}
	return api.OK
}

// readAs says whether each code is read as the word of its right code. That is so just if at most one bit differs, as any two right codes differ in four bits or more.
func readAs(codes, right []int) bool {
	for i, c := range codes {
		other := c ^ right[i]
		if other&(other-1) != 0 {
			return false
		}
	}
	return true
}
