package power

import (
	"slices"

	"perigee/api"
)

// CheckCell says what is wrong with a cell.
func CheckCell(c api.Cell) api.Fault {
	right := within(c.Room, 1, api.MaxEnergy) && within(c.Level, 0, c.Room) &&
		within(c.Sun, 0, api.MaxPower) && within(c.Base, 0, api.MaxPower) && within(c.Floor, 0, c.Room)
	if !right {
		return api.ErrRange
	}
	return api.OK
}

// flow is what goes into a cell and out of it each millisecond, followed up to a moment.
type flow struct {
	cell  api.Cell
	steps []step
	until int
}

func newFlow(c api.Cell, s []api.Span, l []api.Load, u []api.Use, until int) flow {
	steps := stepsOf(u, func(x api.Use) int {
		load, _ := loadOf(l, x.Load)
		return -load.Power
	})
	steps = append(steps, step{0, -c.Base, noUse})
	for _, x := range s {
		steps = append(steps, step{x.From, c.Sun, noUse}, step{x.To, -c.Sun, noUse})
	}
	sortSteps(steps)
	return flow{c, steps, until}
}

// checkedFlow returns the flow of a cell, if nothing is wrong with what it is made of.
func checkedFlow(c api.Cell, s []api.Span, l []api.Load, u []api.Use, until int) (flow, api.Fault) {
	if fault := CheckCell(c); fault != api.OK {
		return flow{}, fault
	}
	if fault := CheckSun(s); fault != api.OK {
		return flow{}, fault
	}
	if fault := CheckUses(l, u); fault != api.OK {
		return flow{}, fault
	}
	if !isMoment(until) {
		return flow{}, api.ErrRange
	}
	return newFlow(c, s, l, u, until), api.OK
}

// course is how the level of a cell changes each millisecond: the turns from 0 on, and then the last moment.
type course struct {
	cell  api.Cell
	turns []turn
}

// course returns the course with some of the uses.
func (f flow) course(kept func(use int) bool) course {
	l := turns(f.steps, func(use int) bool { return use == noUse || kept(use) })
	l = slices.DeleteFunc(l, func(x turn) bool { return x.at >= f.until })
	return course{f.cell, append(l, turn{at: f.until})}
}

func all(int) bool { return true }

// levels returns the levels at all turns, and at the last moment, from a level at 0 on.
//
// Within the limits no product has more than 63 bits.
func (c course) levels(level int) []api.Level {
	var l []api.Level
	var last turn
	for _, x := range c.turns {
		level += last.sum * (x.at - last.at)
		level = min(max(level, 0), c.cell.Room)
		l = append(l, api.Level{At: x.at, Level: level})
		last = x
	}
	return l
}

// firstBelow returns the first moment at which the level is below a bound, from a level at 0 on, and false if there is none.
func (c course) firstBelow(bound, level int) (int, bool) {
	l := c.levels(level)
	i := slices.IndexFunc(l, func(x api.Level) bool { return x.Level < bound })
	if i < 0 {
		return 0, false
	}
	if i == 0 {
		return 0, true
	}
	// It fell below on its way from the turn before.
	above, fall := l[i-1], -c.turns[i-1].sum
	return above.At + (above.Level-bound)/fall + 1, true
}

// empty returns the first moment at which the level is below the floor, and false if there is none.
func (c course) empty() (int, bool) { return c.firstBelow(c.cell.Floor, c.cell.Level) }
