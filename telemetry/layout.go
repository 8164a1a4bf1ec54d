package telemetry

import (
	"cmp"
	"slices"

	"perigee/api"
	"perigee/naming"
)

// CheckLayouts says what is wrong with parameters, then with layouts of them.
func CheckLayouts(p []api.Parameter, l []api.Layout) api.Fault {
	if fault := CheckParameters(p); fault != api.OK {
		return fault
	}
	if len(l) > api.MaxLayouts {
		return api.ErrLarge
	}
	for i, x := range l {
		if fault := checkLayout(p, x); fault != api.OK {
			return fault
		}
		if i > 0 && x.Name <= l[i-1].Name {
			return api.ErrOrder
		}
	}
	return api.OK
}

// checkLayout says what is wrong with a layout alone.
func checkLayout(p []api.Parameter, x api.Layout) api.Fault {
	switch {
	case !naming.IsWord(x.Name):
		return api.ErrName
	case len(x.Parts) == 0:
		return api.ErrNone
	case len(x.Parts) > api.MaxParts:
		return api.ErrLarge
	}
	there := make([]bool, len(p))
	for _, name := range x.Parts {
		i, ok := placeOf(p, name)
		if !ok {
			return api.ErrNone
		}
		if there[i] {
			return api.ErrTwice
		}
		there[i] = true
	}
	return api.OK
}

// layoutOf returns the layout with a name, and false if there is none.
func layoutOf(l []api.Layout, name string) (api.Layout, bool) {
	i, ok := slices.BinarySearchFunc(l, name, func(x api.Layout, name string) int { return cmp.Compare(x.Name, name) })
	if !ok {
		return api.Layout{}, false
	}
	return l[i], true
}

// partsOf returns the parameters of a layout.
func partsOf(p []api.Parameter, x api.Layout) []api.Parameter {
	var parts []api.Parameter
	for _, name := range x.Parts {
		i, _ := placeOf(p, name)
		parts = append(parts, p[i])
	}
	return parts
}

// parts checks parameters and layouts, and returns the parameters of the layout with a name.
func parts(p []api.Parameter, l []api.Layout, name string) ([]api.Parameter, api.Fault) {
	if fault := CheckLayouts(p, l); fault != api.OK {
		return nil, fault
	}
	x, ok := layoutOf(l, name)
	if !ok {
		return nil, api.ErrNone
	}
	return partsOf(p, x), api.OK
}

// Bits returns how many bits a layout has.
func Bits(p []api.Parameter, l []api.Layout, name string) (int, api.Fault) {
	x, fault := parts(p, l, name)
	return bitsOf(x), fault
}

func bitsOf(parts []api.Parameter) int {
	many := 0
	for _, x := range parts {
		many += x.Bits
	}
	return many
}

// Filled returns the bytes of a layout with readings.
func Filled(p []api.Parameter, l []api.Layout, name string, values []api.Reading) ([]byte, api.Fault) {
	x, fault := parts(p, l, name)
	if fault != api.OK {
		return nil, fault
	}
	if fault := checkReadings(x, values); fault != api.OK {
		return nil, fault
	}
	var w writer
	for i, part := range x {
		w.put(values[i].Raw, part.Bits)
	}
	return w.bytes, api.OK
}

// checkReadings says what is wrong with readings of the parts of a layout.
func checkReadings(parts []api.Parameter, values []api.Reading) api.Fault {
	for i, x := range values {
		if i >= len(parts) || x.Name != parts[i].Name {
			return api.ErrForm
		}
		if !inRange(parts[i], x.Raw) {
			return api.ErrRange
		}
	}
	if len(values) < len(parts) {
		return api.ErrForm
	}
	return api.OK
}

// Emptied returns the readings that are in the bytes of a layout.
func Emptied(p []api.Parameter, l []api.Layout, name string, b []byte) ([]api.Reading, api.Fault) {
	x, fault := parts(p, l, name)
	if fault != api.OK {
		return nil, fault
	}
	r := reader{bytes: b}
	values := make([]api.Reading, 0, len(x))
	for _, part := range x {
		values = append(values, api.Reading{Name: part.Name, Raw: r.raw(part)})
	}
	if !r.ended() {
		return nil, api.ErrForm
	}
	return values, api.OK
}
