package clock

import (
	"math/bits"
	"sort"

	"perigee/api"
	"perigee/ratio"
)

// beyond is more than any time is away from a mark.
const beyond = 2 * api.MaxMoment

// CheckMarks returns what is wrong with marks.
func CheckMarks(m []api.Mark) api.Fault {
	switch {
	case len(m) == 0:
		return api.ErrNone
	case len(m) > api.MaxMarks:
		return api.ErrLarge
	}
	for i, x := range m {
		if !upTo(x.Tick, api.MaxTick) || !upTo(x.Time, api.MaxMoment) || !upTo(x.Off, api.MaxOff) {
			return api.ErrRange
		}
		if i > 0 && (x.Tick <= m[i-1].Tick || x.Time <= m[i-1].Time) {
			return api.ErrOrder
		}
	}
	return api.OK
}

// checkLine checks marks, then a number from 0 to most, then that there are two marks for a straight line.
func checkLine(m []api.Mark, n, most int) api.Fault {
	if f := CheckMarks(m); f != api.OK {
		return f
	}
	switch {
	case !upTo(n, most):
		return api.ErrRange
	case len(m) == 1:
		return api.ErrState
	}
	return api.OK
}

// TimeOf returns the time at a tick by marks.
func TimeOf(m []api.Mark, tick int) (int, api.Fault) {
	if f := checkLine(m, tick, api.MaxTick); f != api.OK {
		return 0, f
	}
	time := lines(m)(tick)
	if !upTo(time, api.MaxMoment) {
		return 0, api.ErrRange
	}
	return time, api.OK
}

// TickOf returns the least tick whose time by marks is at least a time.
func TickOf(m []api.Mark, time int) (int, api.Fault) {
	if f := checkLine(m, time, api.MaxMoment); f != api.OK {
		return 0, f
	}
	timeAt := lines(m)
	tick := sort.Search(api.MaxTick+1, func(tick int) bool { return timeAt(tick) >= time })
	if tick > api.MaxTick {
		return 0, api.ErrRange
	}
	return tick, api.OK
}

// lines returns what the straight lines through successive marks say at a tick, also where that is no time.
func lines(m []api.Mark) func(tick int) int {
	return func(tick int) int {
		next := sort.Search(len(m), func(i int) bool { return m[i].Tick > tick })
		next = min(max(next, 1), len(m)-1)
		return onLine(m[next-1], m[next], tick)
	}
}

// onLine returns what the straight line through two marks says at a tick, rounded, exactly between two whole numbers to the greater one.
func onLine(a, b api.Mark, tick int) int {
	rise, run := b.Time-a.Time, b.Tick-a.Tick
	if tick >= a.Tick {
		n, rest := scaled(tick-a.Tick, rise, run)
		if 2*rest >= run {
			n++
		}
		return a.Time + n
	}
	n, rest := scaled(a.Tick-tick, rise, run)
	if 2*rest > run {
		n++
	}
	return a.Time - n
}

// scaled returns d times rise over run, and the rest; not more than beyond.
func scaled(d, rise, run int) (int, int) {
	high, low := bits.Mul64(uint64(d), uint64(rise))
	if high >= uint64(run) {
		return beyond, 0
	}
	n, rest := bits.Div64(high, low, uint64(run))
	return int(min(n, beyond)), int(rest)
}

// Rates returns the least and the greatest rate between successive marks.
func Rates(m []api.Mark) (api.Share, api.Share, api.Fault) {
	if f := CheckMarks(m); f != api.OK {
		return api.Share{}, api.Share{}, f
	}
	if len(m) == 1 {
		return api.Share{}, api.Share{}, api.ErrState
	}
	least := rate(m[0], m[1])
	greatest := least
	for i := range len(m) - 1 {
		r := rate(m[i], m[i+1])
		if below(r, least) {
			least = r
		}
		if below(greatest, r) {
			greatest = r
		}
	}
	return ratio.Lowest(least.Num, least.Den), ratio.Lowest(greatest.Num, greatest.Den), api.OK
}

func rate(a, b api.Mark) api.Share { return api.Share{Num: b.Time - a.Time, Den: b.Tick - a.Tick} }

// below compares shares that are not below 0, in lowest terms or not; with the Den 0 a share is above all others.
func below(a, b api.Share) bool {
	high, low := bits.Mul64(uint64(a.Num), uint64(b.Den))
	high2, low2 := bits.Mul64(uint64(b.Num), uint64(a.Den))
	return high < high2 || high == high2 && low < low2
}
