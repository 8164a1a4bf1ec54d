package power

import (
	"slices"

	"perigee/api"
)

func checkBars(l []api.Load, bars []api.Bar) api.Fault {
	if len(bars) > api.MaxBars {
		return api.ErrLarge
	}
	for _, x := range bars {
		if fault := checkBar(l, x); fault != api.OK {
			return fault
		}
	}
	return api.OK
}

func checkBar(l []api.Load, bar api.Bar) api.Fault {
	if len(bar.Loads) > api.MaxLoads {
		return api.ErrLarge
	}
	for i, name := range bar.Loads {
		if _, ok := loadOf(l, name); !ok {
			return api.ErrNone
		}
		if i > 0 && name <= bar.Loads[i-1] {
			return api.ErrOrder
		}
	}
	if !within(bar.Most, 0, api.MaxLoads) {
		return api.ErrRange
	}
	return api.OK
}

// Together returns the spans in which bars are broken.
func Together(l []api.Load, u []api.Use, bars []api.Bar) ([]api.Bad, api.Fault) {
	if fault := CheckUses(l, u); fault != api.OK {
		return nil, fault
	}
	if fault := checkBars(l, bars); fault != api.OK {
		return nil, fault
	}
	steps := stepsOf(u, func(api.Use) int { return 1 })
	sortSteps(steps)
	var bad []api.Bad
	for i, bar := range bars {
		on := turns(steps, func(use int) bool { return slices.Contains(bar.Loads, u[use].Load) })
		for _, x := range above(on, bar.Most) {
			bad = append(bad, api.Bad{Bar: i, From: x.From, To: x.To})
		}
	}
	return bad, api.OK
}

// above returns the spans in which a sum, which ends with 0, is above a number, not below 0.
func above(sums []turn, most int) []api.Span {
	var l []api.Span
	is := false
	for _, x := range sums {
		switch {
		case x.sum > most && !is:
			l = append(l, api.Span{From: x.at})
		case x.sum <= most && is:
			l[len(l)-1].To = x.at
		}
		is = x.sum > most
	}
	return l
}
