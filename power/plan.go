package power

import (
	"cmp"
	"slices"
	"sort"

	"perigee/api"
)

// Shed returns the uses that are left when enough are left out for the level not to be below the floor.
func Shed(c api.Cell, s []api.Span, l []api.Load, u []api.Use, until int) ([]api.Use, api.Fault) {
	f, fault := checkedFlow(c, s, l, u, until)
	if fault != api.OK {
		return nil, fault
	}
	var numbers []int
	for i := range u {
		numbers = append(numbers, i)
	}
	slices.SortFunc(numbers, func(i, j int) int { return sooner(l, u[i], u[j]) })
	out := make([]bool, len(u))
	kept := func(use int) bool { return !out[use] }
	for at, is := f.course(kept).empty(); is; at, is = f.course(kept).empty() {
		next := slices.IndexFunc(numbers, func(use int) bool { return kept(use) && u[use].From < at })
		if next < 0 {
			break
		}
		out[numbers[next]] = true
	}
	var left []api.Use
	for i, x := range u {
		if kept(i) {
			left = append(left, x)
		}
	}
	return left, api.OK
}

// sooner compares uses by which one is left out sooner.
func sooner(l []api.Load, x, y api.Use) int {
	a, _ := loadOf(l, x.Load)
	b, _ := loadOf(l, y.Load)
	return cmp.Or(cmp.Compare(a.Worth, b.Worth), cmp.Compare(y.From, x.From), cmp.Compare(a.Name, b.Name))
}

// Kept returns the numbers of the uses that are worth most of those with which the level is never below the floor, and what they are worth.
func Kept(c api.Cell, s []api.Span, l []api.Load, u []api.Use, until int) ([]int, int, api.Fault) {
	f, fault := checkedFlow(c, s, l, u, until)
	if fault != api.OK {
		return nil, 0, fault
	}
	if len(u) > api.MaxChoice {
		return nil, 0, api.ErrLarge
	}
	var best []int
	most := 0
	var try func(numbers []int, worth, next int)
	try = func(numbers []int, worth, next int) {
		if _, is := f.course(func(use int) bool { return slices.Contains(numbers, use) }).empty(); is {
			return // with more uses the level is never higher
		}
		// Of those with as many numbers the lesser ones come first.
		if worth > most || worth == most && len(numbers) < len(best) {
			best, most = numbers, worth
		}
		for i := next; i < len(u); i++ {
			load, _ := loadOf(l, u[i].Load)
			try(append(slices.Clone(numbers), i), worth+load.Worth, i+1)
		}
	}
	try(nil, 0, 0)
	return best, most, api.OK
}

// Least returns the least level at 0 with which the level is never below the floor, and false if there is none.
func Least(c api.Cell, s []api.Span, l []api.Load, u []api.Use, until int) (int, bool, api.Fault) {
	f, fault := checkedFlow(c, s, l, u, until)
	if fault != api.OK {
		return 0, false, fault
	}
	way := f.course(all)
	level := sort.Search(c.Room+1, func(level int) bool {
		_, is := way.firstBelow(c.Floor, level)
		return !is
	})
	if level > c.Room {
		return 0, false, api.OK
	}
	return level, true, api.OK
}

// Longest returns how long a load can be on from a moment on, besides all uses, such that the level is never below the floor.
func Longest(c api.Cell, s []api.Span, l []api.Load, u []api.Use, name string, from, until int) (int, api.Fault) {
	if _, fault := checkedFlow(c, s, l, u, until); fault != api.OK {
		return 0, fault
	}
	if _, ok := loadOf(l, name); !ok {
		return 0, api.ErrNone
	}
	if !within(from, 0, until) {
		return 0, api.ErrRange
	}
	if isOn(u, name, from, until) {
		return 0, api.ErrClash
	}
	return sort.Search(until-from, func(long int) bool {
		longer := append(slices.Clone(u), api.Use{Load: name, From: from, To: from + long + 1})
		_, is := newFlow(c, s, l, longer, until).course(all).empty()
		return is
	}), api.OK
}
