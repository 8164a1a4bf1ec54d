package schedule_test

import (
	"fmt"
	"math"
	"slices"
	"strings"
	"testing"

	"perigee/api"
	"perigee/schedule"
)

func manyProcs(n int) []api.Proc {
	var p []api.Proc
	for i := range n {
		p = append(p, api.Proc{Name: fmt.Sprintf("p%03d", i)})
	}
	return p
}

// chain is procedures, each of which calls the next one.
func chain(n int) []api.Proc {
	p := manyProcs(n)
	for i := range p[:n-1] {
		p[i].Steps = []api.ProcStep{{Kind: api.ProcCall, Text: p[i+1].Name}}
	}
	return p
}

// wrongProcs are procedures with an error; those behind it have later errors too.
func wrongProcs(try func(name string, p []api.Proc, want api.Fault)) {
	tooMany := manyProcs(api.MaxProcs + 1)
	tooMany[0].Name = "?"
	try("too many", tooMany, api.ErrLarge)
	names(func(string) {}, func(name string) {
		try(fmt.Sprintf("%q", name), []api.Proc{{Name: name, Steps: make([]api.ProcStep, api.MaxProcSteps+1)}}, api.ErrName)
	})
	try("no name", []api.Proc{{Steps: make([]api.ProcStep, api.MaxProcSteps+1)}}, api.ErrName)
	try("too many steps", []api.Proc{{Name: "p", Steps: make([]api.ProcStep, api.MaxProcSteps+1)}, {}}, api.ErrLarge)
	wrongSteps(func(name string, s api.ProcStep, want api.Fault) {
		try(name, []api.Proc{{Name: "p", Steps: []api.ProcStep{{Kind: api.ProcGo, Label: "none"}, s, {}}}, {}}, want)
		try(name+", before order", []api.Proc{{Name: "q"}, {Name: "p", Steps: []api.ProcStep{s}}}, want)
	})
	try("a label twice", procs("p: label a; label a; label ?"), api.ErrTwice)
	try("a label twice, later", procs("p: go none; label a; label b; send c; label c; label b; label ?"), api.ErrTwice)
	try("a label twice, before order", procs("q:", "p: label a; label a"), api.ErrTwice)
	try("no label, before twice", procs("p: label a; label ?; label a"), api.ErrName)
	try("order", procs("q: go none", "p: call none", "?:"), api.ErrOrder)
	try("order later", procs("p:", "q:", "r:", "qq: go none", "?:"), api.ErrOrder)
	try("the same", procs("p:", "p:", "?:"), api.ErrOrder)
	for _, s := range []string{"go a", "if sun a", "unless sun a", "await sun 5 a"} {
		try(s, procs("p: "+s), api.ErrNone)
		try(s+", the label of another", procs("p: "+s, "q: label a; label b"), api.ErrNone)
		try(s+", another label", procs("p: label b; "+s), api.ErrNone)
		try(s+", before a loop", procs("p: call q; "+s, "q: call p"), api.ErrNone)
		try(s+", behind a loop", procs("p: call q", "q: call p; "+s), api.ErrNone)
	}
	try("no such procedure", procs("p: call q"), api.ErrNone)
	try("no such procedure, behind a loop", procs("p: call p; call q"), api.ErrNone)
	try("a label is no procedure", procs("p: label q; call q"), api.ErrNone)
	try("a procedure is no label", procs("p: go q", "q:"), api.ErrNone)
	try("it calls itself", procs("p: call p"), api.ErrLoop)
	try("it calls itself at last", procs("p: end; send a; call p"), api.ErrLoop)
	try("over another", procs("p: call q", "q: call p"), api.ErrLoop)
	try("over two others", procs("p: call q", "q: call r", "r: call p"), api.ErrLoop)
	try("not the first one", procs("p: call r", "q: call q", "r:"), api.ErrLoop)
	try("called by one that does not", procs("p: call q; call r", "q: call s", "r: call t", "s:", "t: call r"), api.ErrLoop)
	long := chain(api.MaxProcs)
	long[api.MaxProcs-1].Steps = []api.ProcStep{{Kind: api.ProcCall, Text: "p000"}}
	try("over all others", long, api.ErrLoop)
}

// wrongSteps are steps with an error that have later errors too.
func wrongSteps(try func(name string, s api.ProcStep, want api.Fault)) {
	for _, n := range []int{math.MinInt, -1, 0, 9, math.MaxInt} {
		try(fmt.Sprint("kind ", n), api.ProcStep{Kind: n, N: -1, Text: "?", Label: "?"}, api.ErrKind)
	}
	wrongStepFields(try)
	commands(func(string) {}, func(command string) {
		try(fmt.Sprintf("send %q", command), api.ProcStep{Kind: api.ProcSend, Text: command}, api.ErrForm)
	})
	wrongNames := func(try func(name string)) {
		try("")
		names(func(string) {}, try)
	}
	wrongNames(func(name string) {
		try(fmt.Sprintf("await %q", name), api.ProcStep{Kind: api.ProcAwait, Text: name, N: -1, Label: "?"}, api.ErrName)
		try(fmt.Sprintf("if %q", name), api.ProcStep{Kind: api.ProcIf, Text: name, Label: "?"}, api.ErrName)
		try(fmt.Sprintf("call %q", name), api.ProcStep{Kind: api.ProcCall, Text: name}, api.ErrName)
		try(fmt.Sprintf("await for %q", name), api.ProcStep{Kind: api.ProcAwait, Text: "sun", N: 1, Label: name}, api.ErrName)
		try(fmt.Sprintf("if so %q", name), api.ProcStep{Kind: api.ProcIf, Text: "sun", Label: name}, api.ErrName)
		try(fmt.Sprintf("go %q", name), api.ProcStep{Kind: api.ProcGo, Label: name}, api.ErrName)
		try(fmt.Sprintf("label %q", name), api.ProcStep{Kind: api.ProcLabel, Label: name}, api.ErrName)
	})
	for _, n := range []int{math.MinInt, -1, 0, api.MaxShift + 1, math.MaxInt} {
		try(fmt.Sprint("wait ", n), api.ProcStep{Kind: api.ProcWait, N: n}, api.ErrRange)
		try(fmt.Sprint("await for ", n), api.ProcStep{Kind: api.ProcAwait, Text: "sun", N: n, Label: "?"}, api.ErrRange)
	}
}

// wrongStepFields gives each kind each field that it does not have; what it has is wrong too.
func wrongStepFields(try func(name string, s api.ProcStep, want api.Fault)) {
	has := map[int]string{api.ProcSend: "text", api.ProcWait: "n", api.ProcAwait: "text n label", api.ProcIf: "text not label", api.ProcGo: "label", api.ProcLabel: "label", api.ProcCall: "text", api.ProcEnd: ""}
	for kind, fields := range has {
		for _, c := range []struct {
			name string
			set  func(s *api.ProcStep)
		}{
			{"text", func(s *api.ProcStep) { s.Text = "t" }},
			{"label", func(s *api.ProcStep) { s.Label = "l" }},
			{"not", func(s *api.ProcStep) { s.Not = true }},
			{"n", func(s *api.ProcStep) { s.N = 1 }},
			{"n", func(s *api.ProcStep) { s.N = -1 }},
		} {
			if slices.Contains(strings.Fields(fields), c.name) {
				continue
			}
			s := api.ProcStep{Kind: kind}
			c.set(&s)
			try(fmt.Sprintf("kind %d with %s", kind, c.name), s, api.ErrForm)
			if kind == api.ProcSend {
				// Without a Text that would be ErrForm too.
				s.Text = "c"
				try(fmt.Sprintf("send c with %s", c.name), s, api.ErrForm)
			}
		}
	}
}

// Q5.
func TestCheckProcs(t *testing.T) {
	wrongProcs(func(name string, p []api.Proc, want api.Fault) {
		wantFault(t, name, schedule.CheckProcs(p), want)
	})
	for name, p := range map[string][]api.Proc{
		"none":                     nil,
		"without steps":            procs("p:"),
		"all kinds":                procs("p: send a  b; wait 1; wait 1000000000; await sun 1 x; await sun 1000000000 y; if sun x; unless moon y; go x; call q; end; label x; label y; go y", "q: label x; send x"),
		"the example":              procs("p: send a; await sun 100 no; send b; label no"),
		"a label before and after": procs("p: label a; go a; go b; label b"),
		"called from two":          procs("p: call r; call r; call q", "q: call r", "r:"),
		"called from earlier ones": procs("p:", "q: call p", "r: call q; call p"),
		"names like others":        procs("p: label p; go p; call q; if q p", "q: label p"),
		"most":                     manyProcs(api.MaxProcs),
		"most, in a chain":         chain(api.MaxProcs),
		"most steps":               {{Name: "p", Steps: sends(api.MaxProcSteps)}},
		"order":                    procs("a:", "a-:", "a0:", "a_:", "aa:", "b:"),
	} {
		wantFault(t, name, schedule.CheckProcs(p), api.OK)
	}
	names(func(name string) {
		wantFault(t, name, schedule.CheckProcs(procs(name+": label "+name+"; if "+name+" "+name+"; go "+name)), api.OK)
	}, func(string) {})
	commands(func(command string) {
		wantFault(t, command, schedule.CheckProcs([]api.Proc{{Name: "p", Steps: []api.ProcStep{{Kind: api.ProcSend, Text: command}}}}), api.OK)
	}, func(string) {})
}

// TestLoopsInManyCalls: calls that branch at each procedure are all followed once.
func TestLoopsInManyCalls(t *testing.T) {
	p := manyProcs(api.MaxProcs)
	for i := range p {
		for _, q := range p[i+1:] {
			p[i].Steps = append(p[i].Steps, api.ProcStep{Kind: api.ProcCall, Text: q.Name}, api.ProcStep{Kind: api.ProcCall, Text: q.Name})
		}
	}
	wantFault(t, "no loop", schedule.CheckProcs(p), api.OK)
	last := &p[api.MaxProcs-1]
	last.Steps = []api.ProcStep{{Kind: api.ProcCall, Text: p[api.MaxProcs-2].Name}}
	wantFault(t, "a loop at the end", schedule.CheckProcs(p), api.ErrLoop)
}
