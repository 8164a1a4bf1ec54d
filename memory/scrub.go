package memory

import (
	"perigee/api"
)

// scrubber goes through codes, and keeps at which place it goes on and what it did.
type scrubber struct {
	codes []int
	next  int
	done  []api.Scrub
}

// scrub goes through so many codes at a moment.
func (s *scrubber) scrub(at, many int) {
	for range many {
		c := s.codes[s.next]
		kind, bit := kindOf(c)
		if kind != api.WordRight {
			s.done = append(s.done, api.Scrub{At: at, Place: s.next, Kind: kind, Bit: bit})
		}
		if kind == api.WordOne {
			s.codes[s.next] = flipped(c, bit)
		}
		s.next = (s.next + 1) % len(s.codes)
	}
}

// flip flips the bits of a list up to a moment, and returns the flips behind it.
func (s *scrubber) flip(l []api.Flip, until int) []api.Flip {
	for len(l) > 0 && l[0].At <= until {
		x := l[0]
		s.codes[x.Place] = flipped(s.codes[x.Place], x.Bit)
		l = l[1:]
	}
	return l
}

// run makes the rounds and the flips up to a moment.
func (s *scrubber) run(r api.Round, l []api.Flip, until int) {
	for at := r.Every; at <= until; at += r.Every {
		l = s.flip(l, at)
		s.scrub(at, r.Many)
	}
	s.flip(l, until)
}

// Scrubbed goes through many codes of a bank from a place on, and returns the bank and what was done.
func Scrubbed(b api.Bank, from, many int) (api.Bank, []api.Scrub, api.Fault) {
	if f := checkPlace(b, from); f != api.OK {
		return api.Bank{}, nil, f
	}
	if !within(many, 0, api.MaxScrub) {
		return api.Bank{}, nil, api.ErrRange
	}
	out := cloned(b)
	s := scrubber{codes: out.Codes, next: from}
	s.scrub(0, many)
	return out, s.done, api.OK
}

// CheckFlips returns what is wrong with a bank, then with flips in it.
func CheckFlips(b api.Bank, l []api.Flip) api.Fault {
	if f := CheckBank(b); f != api.OK {
		return f
	}
	if len(l) > api.MaxFlips {
		return api.ErrLarge
	}
	before := 0
	for _, x := range l {
		switch {
		case !within(x.At, 0, api.MaxMoment):
			return api.ErrRange
		case !within(x.Place, 0, len(b.Codes)-1):
			return api.ErrNone
		case !isBit(x.Bit):
			return api.ErrRange
		case x.At < before:
			return api.ErrOrder
		}
		before = x.At
	}
	return api.OK
}

// Rounds returns a bank as it is at a moment, behind the flips and the rounds up to it, and what these did.
func Rounds(b api.Bank, r api.Round, l []api.Flip, until int) (api.Bank, []api.Scrub, api.Fault) {
	if f := checkRounds(b, r, l, until); f != api.OK {
		return api.Bank{}, nil, f
	}
	out := cloned(b)
	s := scrubber{codes: out.Codes}
	s.run(r, l, until)
	return out, s.done, api.OK
}

func checkRounds(b api.Bank, r api.Round, l []api.Flip, until int) api.Fault {
	if f := CheckFlips(b, l); f != api.OK {
		return f
	}
	switch {
	case !within(r.Every, 1, api.MaxMoment), !within(r.Many, 1, api.MaxScrub), !within(until, 0, api.MaxMoment):
		return api.ErrRange
	case until/r.Every*r.Many > api.MaxWork:
		return api.ErrLarge
	}
	return api.OK
}

// Lost returns the places whose words cannot be read at a moment.
func Lost(b api.Bank, r api.Round, l []api.Flip, until int) ([]int, api.Fault) {
	out, _, f := Rounds(b, r, l, until)
	var places []int
	for i, c := range out.Codes {
		if _, _, damaged := Decoded(c); damaged != api.OK {
			places = append(places, i)
		}
	}
	return places, f
}

// Wrong returns the places whose words are read as others than were written.
func Wrong(b api.Bank, r api.Round, l []api.Flip, until int) ([]int, api.Fault) {
	out, _, f := Rounds(b, r, l, until)
	var places []int
	for i, c := range out.Codes {
		if w, _, damaged := Decoded(c); damaged == api.OK && w != out.Saved[i] {
			places = append(places, i)
		}
	}
	return places, f
}
