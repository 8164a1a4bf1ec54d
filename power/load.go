package power

import (
	"cmp"
	"slices"

	"perigee/api"
	"perigee/naming"
)

// CheckLoads says what is wrong with loads.
func CheckLoads(l []api.Load) api.Fault {
	if len(l) > api.MaxLoads {
		return api.ErrLarge
	}
	for i, x := range l {
		switch {
		case !naming.IsWord(x.Name):
			return api.ErrName
		case !within(x.Power, 0, api.MaxPower) || !within(x.Worth, 0, api.MaxWorth):
			return api.ErrRange
		case i > 0 && x.Name <= l[i-1].Name:
			return api.ErrOrder
		}
	}
	return api.OK
}

// loadOf returns the load with a name, and false if there is none.
func loadOf(l []api.Load, name string) (api.Load, bool) {
	i, ok := slices.BinarySearchFunc(l, name, func(x api.Load, name string) int { return cmp.Compare(x.Name, name) })
	if !ok {
		return api.Load{}, false
	}
	return l[i], true
}

// CheckUses says what is wrong with loads, then with their uses.
func CheckUses(l []api.Load, u []api.Use) api.Fault {
	if fault := CheckLoads(l); fault != api.OK {
		return fault
	}
	if len(u) > api.MaxUsesOf {
		return api.ErrLarge
	}
	for i, x := range u {
		if _, ok := loadOf(l, x.Load); !ok {
			return api.ErrNone
		}
		if fault := checkTime(x.From, x.To); fault != api.OK {
			return fault
		}
		if i > 0 && inOrder(u[i-1], x) >= 0 {
			return api.ErrOrder
		}
	}
	for i, x := range u {
		if isOn(u[:i], x.Load, x.From, x.From+1) {
			return api.ErrClash
		}
	}
	return api.OK
}

func inOrder(x, y api.Use) int {
	return cmp.Or(cmp.Compare(x.From, y.From), cmp.Compare(x.Load, y.Load), cmp.Compare(x.To, y.To))
}

// isOn says whether a load is on at any moment from one up to another one.
func isOn(u []api.Use, load string, from, to int) bool {
	return slices.ContainsFunc(u, func(x api.Use) bool {
		return x.Load == load && max(x.From, from) < min(x.To, to)
	})
}

// Draw returns the power of all loads that are on at a moment.
func Draw(l []api.Load, u []api.Use, at int) (int, api.Fault) {
	if fault := CheckUses(l, u); fault != api.OK {
		return 0, fault
	}
	if !isMoment(at) {
		return 0, api.ErrRange
	}
	sum := 0
	for _, x := range l {
		if isOn(u, x.Name, at, at+1) {
			sum += x.Power
		}
	}
	return sum, api.OK
}
