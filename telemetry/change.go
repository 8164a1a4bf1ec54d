package telemetry

import (
	"slices"

	"perigee/api"
)

// Changes returns the bytes that tell what changed in the readings of a layout.
func Changes(p []api.Parameter, l []api.Layout, name string, before, now []api.Reading) ([]byte, api.Fault) {
	x, fault := parts(p, l, name)
	if fault != api.OK {
		return nil, fault
	}
	for _, values := range [][]api.Reading{before, now} {
		if fault := checkReadings(x, values); fault != api.OK {
			return nil, fault
		}
	}
	var w writer
	for i := range x {
		if now[i] != before[i] {
			w.put(1, 1)
		} else {
			w.put(0, 1)
		}
	}
	for i, part := range x {
		if now[i] != before[i] {
			w.put(now[i].Raw, part.Bits)
		}
	}
	return w.bytes, api.OK
}

// Changed returns the readings of a layout that those before became by what changed.
func Changed(p []api.Parameter, l []api.Layout, name string, before []api.Reading, b []byte) ([]api.Reading, api.Fault) {
	x, fault := parts(p, l, name)
	if fault != api.OK {
		return nil, fault
	}
	if fault := checkReadings(x, before); fault != api.OK {
		return nil, fault
	}
	r := reader{bytes: b}
	var told []bool
	for range x {
		told = append(told, r.take(1) == 1)
	}
	now := slices.Clone(before)
	for i, part := range x {
		if !told[i] {
			continue
		}
		now[i].Raw = r.raw(part)
		if now[i] == before[i] {
			return nil, api.ErrForm
		}
	}
	if !r.ended() {
		return nil, api.ErrForm
	}
	return now, api.OK
}
