package schedule

import (
	"slices"

	"perigee/api"
)

// walk is a procedure that goes on.
type walk struct {
	procs  map[string]ready
	facts  map[string][]api.Span
	places []api.Place
	now    int
	until  int
	sent   []api.Did
	steps  int // done in all
	here   int // done at this moment
}

// Go lets a procedure go on from a moment up to another one, and returns the commands that it sends, where it is then, and the moment.
func Go(p []api.Proc, s []api.Place, f []api.Fact, from, until int) ([]api.Did, []api.Place, int, api.Fault) {
	if fault := checkGo(p, s, f, from, until); fault != api.OK {
		return nil, nil, 0, fault
	}
	w := walk{procs: readied(p), facts: spansByName(f), places: slices.Clone(s), now: from, until: until}
	if fault := w.walk(); fault != api.OK {
		return nil, nil, 0, fault
	}
	return w.sent, w.places, w.now, api.OK
}

func checkGo(p []api.Proc, s []api.Place, f []api.Fact, from, until int) api.Fault {
	if fault := CheckPlaces(p, s); fault != api.OK {
		return fault
	}
	if fault := CheckFacts(f); fault != api.OK {
		return fault
	}
	if !within(from, 0, api.MaxMoment) || !within(until, 0, api.MaxMoment) {
		return api.ErrRange
	}
	if until < from {
		return api.ErrOrder
	}
	return api.OK
}

// walk goes on until the procedure has ended, or waits for longer.
func (w *walk) walk() api.Fault {
	for len(w.places) > 0 {
		at := &w.places[len(w.places)-1]
		proc := w.procs[at.Proc]
		switch {
		case at.Until != idle:
			if !w.wait(at, proc) {
				w.now = w.until
				return api.OK
			}
		case at.Step == len(proc.steps):
			w.end()
		default:
			if fault := w.step(at, proc); fault != api.OK {
				return fault
			}
		}
	}
	return api.OK
}

// wait goes on behind a wait, and says whether it did by the moment up to which the procedure goes.
func (w *walk) wait(at *api.Place, proc ready) bool {
	then, step := w.waited(*at, proc)
	if then > w.until {
		return false
	}
	if then > w.now {
		w.now, w.here = then, 0
	}
	at.Step, at.Until = step, idle
	return true
}

// waited returns when a wait is over, and which step comes next.
func (w *walk) waited(at api.Place, proc ready) (int, int) {
	step := proc.steps[at.Step]
	if step.Kind == api.ProcWait {
		return max(at.Until, w.now), at.Step + 1
	}
	then, ok := firstIn(w.facts[step.Text], w.now)
	// At Until itself the fact still counts, but not behind it.
	if ok && then <= at.Until {
		return then, at.Step + 1
	}
	return max(at.Until, w.now), proc.behind[step.Label]
}

func (w *walk) end() {
	w.places = w.places[:len(w.places)-1]
}

// step does a step that takes no time, or begins to wait.
func (w *walk) step(at *api.Place, proc ready) api.Fault {
	step := proc.steps[at.Step]
	if fault := w.count(step); fault != api.OK {
		return fault
	}
	if waits(step) {
		at.Until = w.now + step.N
		return api.OK
	}
	at.Step++
	switch step.Kind {
	case api.ProcSend:
		w.sent = append(w.sent, api.Did{At: w.now, Command: step.Text})
	case api.ProcIf:
		if isIn(w.facts[step.Text], w.now) != step.Not {
			at.Step = proc.behind[step.Label]
		}
	case api.ProcGo:
		at.Step = proc.behind[step.Label]
	case api.ProcCall:
		w.places = append(w.places, api.Place{Proc: step.Text, Step: 0, Until: idle})
	case api.ProcEnd:
		w.end()
	}
	return api.OK
}

// count counts a step that is reached, ahead of what it does.
func (w *walk) count(step api.ProcStep) api.Fault {
	w.here++
	if w.here > api.MaxDone {
		return api.ErrLoop
	}
	w.steps++
	if w.steps > api.MaxWalk || step.Kind == api.ProcSend && len(w.sent) == api.MaxDone {
		return api.ErrLarge
	}
	return api.OK
}
