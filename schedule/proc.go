package schedule

import (
	"perigee/api"
	"perigee/naming"
)

// CheckProcs says what is wrong with procedures.
func CheckProcs(p []api.Proc) api.Fault {
	if len(p) > api.MaxProcs {
		return api.ErrLarge
	}
	for i, x := range p {
		if fault := checkProc(x); fault != api.OK {
			return fault
		}
		if i > 0 && x.Name <= p[i-1].Name {
			return api.ErrOrder
		}
	}
	return checkWhole(readied(p), p)
}

// checkProc says what is wrong with a procedure alone.
func checkProc(x api.Proc) api.Fault {
	if !naming.IsName(x.Name) {
		return api.ErrName
	}
	if len(x.Steps) > api.MaxProcSteps {
		return api.ErrLarge
	}
	labels := map[string]bool{}
	for _, step := range x.Steps {
		if fault := checkStep(step); fault != api.OK {
			return fault
		}
		if step.Kind != api.ProcLabel {
			continue
		}
		if labels[step.Label] {
			return api.ErrTwice
		}
		labels[step.Label] = true
	}
	return api.OK
}

// checkStep says what is wrong with a step alone.
func checkStep(s api.ProcStep) api.Fault {
	switch {
	case !within(s.Kind, api.ProcSend, api.ProcLabel):
		return api.ErrKind
	case s != stepOfItsKind(s):
		return api.ErrForm
	case s.Kind == api.ProcSend && !isCommand(s.Text):
		return api.ErrForm
	case asksFact(s) && !naming.IsName(s.Text) || s.Kind == api.ProcCall && !naming.IsName(s.Text):
		return api.ErrName
	case waits(s) && !within(s.N, 1, api.MaxShift):
		return api.ErrRange
	case hasLabel(s) && !naming.IsName(s.Label):
		return api.ErrName
	}
	return api.OK
}

// stepOfItsKind returns a step with those fields alone that its Kind has.
func stepOfItsKind(s api.ProcStep) api.ProcStep {
	x := api.ProcStep{Kind: s.Kind}
	if s.Kind == api.ProcSend || s.Kind == api.ProcCall || asksFact(s) {
		x.Text = s.Text
	}
	if waits(s) {
		x.N = s.N
	}
	if hasLabel(s) {
		x.Label = s.Label
	}
	if s.Kind == api.ProcIf {
		x.Not = s.Not
	}
	return x
}

func asksFact(s api.ProcStep) bool { return s.Kind == api.ProcAwait || s.Kind == api.ProcIf }

func waits(s api.ProcStep) bool { return s.Kind == api.ProcWait || s.Kind == api.ProcAwait }

func hasLabel(s api.ProcStep) bool { return leads(s) || s.Kind == api.ProcLabel }

// leads says whether a step can lead to a label.
func leads(s api.ProcStep) bool { return asksFact(s) || s.Kind == api.ProcGo }

// ready is a procedure, and behind which step each of its labels leads.
type ready struct {
	steps  []api.ProcStep
	behind map[string]int
}

func readied(p []api.Proc) map[string]ready {
	procs := map[string]ready{}
	for _, x := range p {
		behind := map[string]int{}
		for i, step := range x.Steps {
			if step.Kind == api.ProcLabel {
				behind[step.Label] = i + 1
			}
		}
		procs[x.Name] = ready{steps: x.Steps, behind: behind}
	}
	return procs
}

// checkWhole says whether all that procedures speak of is there, and whether one calls itself.
func checkWhole(procs map[string]ready, p []api.Proc) api.Fault {
	for _, x := range p {
		for _, step := range x.Steps {
			_, label := procs[x.Name].behind[step.Label]
			_, proc := procs[step.Text]
			if leads(step) && !label || step.Kind == api.ProcCall && !proc {
				return api.ErrNone
			}
		}
	}
	if loop(procs, p) {
		return api.ErrLoop
	}
	return api.OK
}

// loop says whether a procedure calls itself, over others.
func loop(procs map[string]ready, p []api.Proc) bool {
	open, over := map[string]bool{}, map[string]bool{}
	var leadsBack func(name string) bool
	leadsBack = func(name string) bool {
		if open[name] || over[name] {
			return open[name]
		}
		open[name] = true
		for _, step := range procs[name].steps {
			if step.Kind == api.ProcCall && leadsBack(step.Text) {
				return true
			}
		}
		open[name], over[name] = false, true
		return false
	}
	for _, x := range p {
		if leadsBack(x.Name) {
			return true
		}
	}
	return false
}
