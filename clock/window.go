package clock

import (
	"math"

	"perigee/api"
)

// perMilli is how many of the units of a clock's rates a millisecond has.
const perMilli = 1000000

// CheckClock returns what is wrong with a clock.
func CheckClock(c api.Clock) api.Fault {
	switch {
	case c.Slow < 1 || c.Slow > api.MaxRate || c.Fast < 1 || c.Fast > api.MaxRate:
		return api.ErrRange
	case c.Fast < c.Slow:
		return api.ErrOrder
	}
	return api.OK
}

func checkBoth(c api.Clock, m []api.Mark) api.Fault {
	if f := CheckClock(c); f != api.OK {
		return f
	}
	return CheckMarks(m)
}

// Window returns from when to when the time at a tick can be by all marks.
func Window(c api.Clock, m []api.Mark, tick int) (int, int, api.Fault) {
	if f := checkBoth(c, m); f != api.OK {
		return 0, 0, f
	}
	if !upTo(tick, api.MaxTick) {
		return 0, 0, api.ErrRange
	}
	first, last := math.MinInt, math.MaxInt
	for _, x := range m {
		from, to := reach(c, x, tick)
		first, last = max(first, from), min(last, to)
	}
	if last < first {
		return 0, 0, api.ErrClash
	}
	return first, last, api.OK
}

// reach returns from when to when the time at a tick can be by one mark; what is no whole number is rounded such that nothing is shut out.
func reach(c api.Clock, m api.Mark, tick int) (int, int) {
	first, last := own(m)
	if d := tick - m.Tick; d >= 0 {
		return first + d*c.Slow/perMilli, last + roundedUp(d*c.Fast)
	}
	d := m.Tick - tick
	return first - roundedUp(d*c.Fast), last - d*c.Slow/perMilli
}

// own returns from when to when the time at a mark's own tick can be.
func own(m api.Mark) (int, int) { return m.Time - m.Off, m.Time + m.Off }

func roundedUp(n int) int { return (n + perMilli - 1) / perMilli }

// Clashes returns the numbers of the marks that some other one alone contradicts.
func Clashes(c api.Clock, m []api.Mark) ([]int, api.Fault) {
	if f := checkBoth(c, m); f != api.OK {
		return nil, f
	}
	var out []int
	for i := range m {
		if contradicted(c, m, i) {
			out = append(out, i)
		}
	}
	return out, api.OK
}

// contradicted needs no exception for the mark itself: nothing contradicts itself.
func contradicted(c api.Clock, m []api.Mark, i int) bool {
	first, last := own(m[i])
	for _, other := range m {
		if from, to := reach(c, other, m[i].Tick); to < first || last < from {
			return true
		}
	}
	return false
}
