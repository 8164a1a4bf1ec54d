package schedule

import (
	"perigee/api"
)

// idle is the Until of a place that does not wait.
const idle = -1

// Start returns the place at the beginning of a procedure.
func Start(p []api.Proc, name string) ([]api.Place, api.Fault) {
	s := []api.Place{{Proc: name, Step: 0, Until: idle}}
	if fault := CheckPlaces(p, s); fault != api.OK {
		return nil, fault
	}
	return s, api.OK
}

// CheckPlaces says what is wrong with the places where a procedure is.
func CheckPlaces(p []api.Proc, s []api.Place) api.Fault {
	if fault := CheckProcs(p); fault != api.OK {
		return fault
	}
	if len(s) > api.MaxProcs {
		return api.ErrLarge
	}
	procs := readied(p)
	for i, x := range s {
		proc, ok := procs[x.Proc]
		if !ok {
			return api.ErrNone
		}
		if !within(x.Step, 0, len(proc.steps)) || !within(x.Until, idle, api.MaxMoment+api.MaxShift) {
			return api.ErrRange
		}
		last := i == len(s)-1
		if x.Until != idle && !(last && waitsAt(proc, x.Step)) {
			return api.ErrState
		}
		if !last && !hasCalled(proc, x.Step, s[i+1].Proc) {
			return api.ErrState
		}
	}
	return api.OK
}

func waitsAt(proc ready, step int) bool {
	return step < len(proc.steps) && waits(proc.steps[step])
}

// hasCalled says whether the step before one calls a procedure.
func hasCalled(proc ready, step int, name string) bool {
	return step > 0 && proc.steps[step-1].Kind == api.ProcCall && proc.steps[step-1].Text == name
}
