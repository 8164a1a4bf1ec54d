// Package clock unrolls counters that go around, leads from ticks to times by marks, says what a moment can have been, and writes times as codes and as dates.
package clock

import (
	"perigee/api"
)

const (
	minBits = 4
	maxBits = 40
)

// Unrolled returns the ticks of readings of a counter of so many bits that goes around.
func Unrolled(raw []int, bits int) ([]int, api.Fault) {
	tick := 0
	return turned(raw, bits, func(reading, round int) (int, api.Fault) {
		if reading < 0 || reading >= round {
			return 0, api.ErrRange
		}
		// A round is a power of two, so this is the remainder, from 0 on, also of a number below 0.
		tick += (reading - tick) & (round - 1)
		if tick > api.MaxTick {
			return 0, api.ErrRange
		}
		return tick, api.OK
	})
}

// Rolled returns what a counter of so many bits reads at ticks.
func Rolled(ticks []int, bits int) ([]int, api.Fault) {
	before := 0
	return turned(ticks, bits, func(tick, round int) (int, api.Fault) {
		switch {
		case !upTo(tick, api.MaxTick):
			return 0, api.ErrRange
		case tick < before:
			return 0, api.ErrOrder
		}
		before = tick
		return tick % round, api.OK
	})
}

// turned gives the numbers of a list to turn, one after the other, and returns what comes of them.
func turned(l []int, bits int, turn func(n, round int) (int, api.Fault)) ([]int, api.Fault) {
	if bits < minBits || bits > maxBits {
		return nil, api.ErrRange
	}
	if len(l) > api.MaxReads {
		return nil, api.ErrLarge
	}
	out := make([]int, 0, len(l))
	for _, n := range l {
		x, f := turn(n, 1<<bits)
		if f != api.OK {
			return nil, f
		}
		out = append(out, x)
	}
	return out, api.OK
}

// upTo says whether a number is from 0 to most.
func upTo(n, most int) bool { return 0 <= n && n <= most }
