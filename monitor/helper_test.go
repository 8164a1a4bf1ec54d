package monitor_test

import (
	"fmt"
	"math"
	"math/rand"
	"reflect"
	"slices"
	"strconv"
	"strings"
	"testing"

	"perigee/api"
	"perigee/monitor"
)

func wantFault(t *testing.T, name string, got, want api.Fault) {
	t.Helper()
	if got != want {
		t.Errorf("%s: fault %d, want %d", name, got, want)
	}
}

func wantSame(t *testing.T, name string, got, want any) {
	t.Helper()
	if !reflect.DeepEqual(got, want) {
		t.Errorf("%s: got %v, want %v", name, got, want)
	}
}

// wantList accepts nil and empty lists alike.
func wantList[E comparable](t *testing.T, name string, got, want []E) {
	t.Helper()
	if !slices.Equal(got, want) {
		t.Errorf("%s: got %v, want %v", name, got, want)
	}
}

// fault returns the fault of a call, given all of its results; -1 if others of them are not zero with it.
func fault(results ...any) api.Fault {
	last := len(results) - 1
	f := results[last].(api.Fault)
	for _, x := range results[:last] {
		v := reflect.ValueOf(x)
		if f != api.OK && !v.IsZero() && !(v.Kind() == reflect.Slice && v.Len() == 0) {
			return -1
		}
	}
	return f
}

func number(s string) int {
	n, err := strconv.Atoi(s)
	if err != nil {
		panic(err)
	}
	return n
}

func numbers(s string) []int {
	var l []int
	for _, w := range strings.Fields(s) {
		l = append(l, number(w))
	}
	return l
}

// named returns names in their order: a0000, a0001, ..
func named(many int) []string {
	var l []string
	for n := range many {
		l = append(l, fmt.Sprintf("a%04d", n))
	}
	return l
}

// limit is made of a line `PARAM LOWLOW LOW HIGH HIGHHIGH COUNT CLEAR BACK`.
func limit(line string) api.Limit {
	name, rest, _ := strings.Cut(line, " ")
	n := numbers(rest)
	return api.Limit{Param: name, LowLow: n[0], Low: n[1], High: n[2], HighHigh: n[3], Count: n[4], Clear: n[5], Back: n[6]}
}

func limits(lines ...string) []api.Limit {
	var l []api.Limit
	for _, line := range lines {
		l = append(l, limit(line))
	}
	return l
}

func manyLimits(many int) []api.Limit {
	var l []api.Limit
	for _, name := range named(many) {
		l = append(l, limit(name+" -5 0 10 20 1 1 0"))
	}
	return l
}

// samples is made of words like 5:a=-7, with At 5 and Value -7.
func samples(words string) []api.Sample {
	var l []api.Sample
	for _, w := range strings.Fields(words) {
		at, rest, _ := strings.Cut(w, ":")
		name, value, _ := strings.Cut(rest, "=")
		l = append(l, api.Sample{At: number(at), Param: name, Value: number(value)})
	}
	return l
}

// valuesOf is a sample of a parameter for each value, one each moment.
func valuesOf(name string, values []int) []api.Sample {
	var l []api.Sample
	for i, value := range values {
		l = append(l, api.Sample{At: i, Param: name, Value: value})
	}
	return l
}

// events is made of words like 5:heat, with At 5.
func events(words string) []api.Event {
	var l []api.Event
	for _, w := range strings.Fields(words) {
		at, name, _ := strings.Cut(w, ":")
		l = append(l, api.Event{At: number(at), Name: name})
	}
	return l
}

// fired is made of words like 5:heat@idle, or 5:heat@idle>rule.
func fired(words string) []api.Fired {
	var l []api.Fired
	for _, w := range strings.Fields(words) {
		at, rest, _ := strings.Cut(w, ":")
		event, rest, _ := strings.Cut(rest, "@")
		mode, rule, _ := strings.Cut(rest, ">")
		l = append(l, api.Fired{At: number(at), Event: event, Mode: mode, Rule: rule})
	}
	return l
}

// rule is made of `NAME EVENT MODE KIND: KIND NAME, ..`, with * for an empty Mode.
func rule(line string) api.WatchRule {
	head, acts, _ := strings.Cut(line, ":")
	w := strings.Fields(head)
	x := api.WatchRule{Name: w[0], Event: w[1], Mode: strings.TrimPrefix(w[2], "*"), Once: w[3] == "once"}
	for _, a := range strings.Split(acts, ",") {
		kinds := map[string]int{"raise": api.ActRaise, "on": api.ActOn, "off": api.ActOff, "switch-on": api.ActSwitch, "switch-off": api.ActSwitch}
		if w := strings.Fields(a); len(w) > 0 {
			x.Acts = append(x.Acts, api.Act{Kind: kinds[w[0]], Name: w[1], Off: w[0] == "switch-off"})
		}
	}
	return x
}

// watch is made of modes, the first one to begin with, and of lines like `a e b` for changes, and as above for rules.
func watch(modes string, lines ...string) api.Watch {
	w := api.Watch{Modes: strings.Fields(modes)}
	if len(w.Modes) > 0 {
		w.Mode = w.Modes[0]
	}
	for _, line := range lines {
		if f := strings.Fields(line); len(f) == 3 {
			w.Changes = append(w.Changes, api.ModeChange{From: f[0], Event: f[1], To: f[2]})
		} else {
			w.Rules = append(w.Rules, rule(line))
		}
	}
	return w
}

// spoil makes one thing wrong.
type spoil[T any] struct {
	name string
	want api.Fault
	make func(x *T)
}

// wrongs gives what is right but for one thing, and for each two things, of which the first one counts; they are in the order of the document.
func wrongs[T any](right func() T, l []spoil[T], try func(name string, x T, want api.Fault)) {
	for i, first := range l {
		x := right()
		first.make(&x)
		try(first.name, x, first.want)
		for _, second := range l[i+1:] {
			x := right()
			second.make(&x)
			first.make(&x)
			try(first.name+" ahead of "+second.name, x, first.want)
		}
	}
}

// noNames are strings that are no names; rightNames are names.
var noNames = []string{"", "_", "-", "0", "9a", "_a", "-a", "A", "aB", "a b", " a", "a ", "a.b", "a\n", "a\x00", "\xc3\xa4", "a*", "*", "a" + strings.Repeat("a", api.MaxName)}
var rightNames = []string{"a", "z", "m0", "a-b_9", "a-", "a_", strings.Repeat("z", api.MaxName)}

// beyond are numbers that are not from one to another one.
func beyond(least, most int) []int {
	return []int{math.MinInt, least - 1, most + 1, math.MaxInt}
}

// What follows is the chapter once more, step by step and in other ways.

// badness is the state of a value by itself.
func badness(x api.Limit, value int) int {
	bad := 0
	if value < x.Low || value > x.High {
		bad = 1
	}
	if value < x.LowLow || value > x.HighHigh {
		bad = 2
	}
	return bad
}

// slowStates returns the state behind each one of some values.
func slowStates(x api.Limit, values []int) []int {
	var states []int
	now := 0
	for n := 1; n <= len(values); n++ {
		worse, better := n >= x.Count, n >= x.Clear
		least, worst := 2, 0
		for i := 0; worse && i < x.Count; i++ {
			bad := badness(x, values[n-1-i])
			worse = worse && bad > now
			least = min(least, bad)
		}
		for i := 0; better && i < x.Clear; i++ {
			for _, by := range []int{-x.Back, x.Back} {
				bad := badness(x, values[n-1-i]+by)
				better = better && bad < now
				worst = max(worst, bad)
			}
		}
		if worse {
			now = least
		} else if better {
			now = worst
		}
		states = append(states, now)
	}
	return states
}

// samplesOf returns the moments and the values of the samples of a parameter.
func samplesOf(s []api.Sample, param string) (moments, values []int) {
	for _, x := range s {
		if x.Param == param {
			moments, values = append(moments, x.At), append(values, x.Value)
		}
	}
	return moments, values
}

func slowFollow(l []api.Limit, s []api.Sample) []api.Event {
	var events []api.Event
	for i, x := range s {
		for _, limit := range l {
			if limit.Param != x.Param {
				continue
			}
			_, values := samplesOf(s[:i+1], x.Param)
			states := append([]int{0}, slowStates(limit, values)...)
			if now := states[len(states)-1]; now != states[len(states)-2] {
				events = append(events, api.Event{At: x.At, Name: x.Param + []string{"-good", "-warn", "-alarm"}[now]})
			}
		}
	}
	return events
}

func slowStatesAt(l []api.Limit, s []api.Sample, at int) []int {
	s = slices.DeleteFunc(slices.Clone(s), func(x api.Sample) bool { return x.At > at })
	var states []int
	for _, limit := range l {
		_, values := samplesOf(s, limit.Param)
		all := append([]int{0}, slowStates(limit, values)...)
		states = append(states, all[len(all)-1])
	}
	return states
}

// slowLongest looks at each row of samples behind which there is just one state.
func slowLongest(l []api.Limit, s []api.Sample, state int) (string, int, bool) {
	param, long, is := "", 0, false
	for _, limit := range l {
		moments, values := samplesOf(s, limit.Param)
		states := slowStates(limit, values)
		for from := range states {
			for to := from; to < len(states) && states[to] == state; to++ {
				end := moments[min(to+1, len(moments)-1)]
				if !is || end-moments[from] > long {
					param, long, is = limit.Param, end-moments[from], true
				}
			}
		}
	}
	return param, long, is
}

// slowWatch is a watch on its way.
type slowWatch struct {
	api.Watch
	off   []string
	units []string
	fired []api.Fired
}

func without(l []string, name string) []string {
	return slices.DeleteFunc(slices.Clone(l), func(x string) bool { return x == name })
}

// event lets one come, and returns what it raises.
func (w *slowWatch) event(at int, name string) []string {
	in, off := w.Mode, slices.Clone(w.off)
	var raised []string
	w.fired = append(w.fired, api.Fired{At: at, Event: name, Mode: in})
	for _, x := range w.Changes {
		if x.From == in && x.Event == name {
			w.Mode = x.To
		}
	}
	for _, x := range w.Rules {
		if slices.Contains(off, x.Name) || x.Event != name || x.Mode != "" && x.Mode != in {
			continue
		}
		w.fired = append(w.fired, api.Fired{At: at, Event: name, Mode: in, Rule: x.Name})
		if x.Once {
			w.off = append(without(w.off, x.Name), x.Name)
		}
		for _, a := range x.Acts {
			switch {
			case a.Kind == api.ActRaise:
				raised = append(raised, a.Name)
			case a.Kind == api.ActOn:
				w.off = without(w.off, a.Name)
			case a.Kind == api.ActOff:
				w.off = append(without(w.off, a.Name), a.Name)
			case a.Off:
				w.units = without(w.units, a.Name)
			default:
				w.units = append(without(w.units, a.Name), a.Name)
			}
		}
	}
	return raised
}

// slowPlay returns a watch behind all events up to a moment.
func slowPlay(w api.Watch, l []api.Event, at int) (slowWatch, api.Fault) {
	s := slowWatch{Watch: w}
	for _, x := range l {
		if x.At > at {
			continue
		}
		before, waiting := len(s.fired), []string{x.Name}
		for i := 0; i < len(waiting); i++ {
			waiting = append(waiting, s.event(x.At, waiting[i])...)
			if len(s.fired)-before > api.MaxFired {
				return slowWatch{}, api.ErrLoop
			}
		}
	}
	slices.Sort(s.units)
	return s, api.OK
}

// slowWays tries all rows of events, the short ones first, and the least ones of these first.
func slowWays(w api.Watch, from, to string) ([]string, bool) {
	names := map[string]bool{}
	for _, x := range w.Changes {
		names[x.Event] = true
	}
	var all []string
	for name := range names {
		all = append(all, name)
	}
	slices.Sort(all)
	for many := range w.Modes {
		if row, is := rowTo(w, all, nil, from, to, many); is {
			return row, true
		}
	}
	return nil, false
}

func rowTo(w api.Watch, all, row []string, at, to string, many int) ([]string, bool) {
	if many == 0 {
		return row, at == to
	}
	for _, name := range all {
		for _, x := range w.Changes {
			if x.From != at || x.Event != name {
				continue
			}
			if found, is := rowTo(w, all, append(slices.Clone(row), name), x.To, to, many-1); is {
				return found, true
			}
		}
	}
	return nil, false
}

// setsOff says whether a rule raises the event of another one.
func setsOff(x, y api.WatchRule) bool {
	return slices.ContainsFunc(x.Acts, func(a api.Act) bool { return a.Kind == api.ActRaise && a.Name == y.Event })
}

// slowLoops tries all rows of rules, the short ones first, and the least ones of these first.
func slowLoops(w api.Watch) ([]string, bool) {
	for many := 1; many <= len(w.Rules); many++ {
		if ring := ringOf(w, nil, many); ring != nil {
			return ring, true
		}
	}
	return nil, false
}

func ringOf(w api.Watch, row []int, many int) []string {
	if len(row) == many {
		var names []string
		for i, n := range row {
			if !setsOff(w.Rules[n], w.Rules[row[(i+1)%many]]) {
				return nil
			}
			names = append(names, w.Rules[n].Name)
		}
		return names
	}
	for n := range w.Rules {
		if slices.Contains(row, n) || len(row) > 0 && n < row[0] {
			continue
		}
		if ring := ringOf(w, append(slices.Clone(row), n), many); ring != nil {
			return ring
		}
	}
	return nil
}

func slowNever(w api.Watch, outside []string) []string {
	come := slices.Clone(outside)
	for range w.Rules {
		for _, x := range w.Rules {
			for _, a := range x.Acts {
				if slices.Contains(come, x.Event) && a.Kind == api.ActRaise {
					come = append(come, a.Name)
				}
			}
		}
		slices.Sort(come)
		come = slices.Compact(come)
	}
	var l []string
	for _, x := range w.Rules {
		if !slices.Contains(come, x.Event) {
			l = append(l, x.Name)
		}
	}
	return l
}

// What follows is made at random.

func randomLimit(r *rand.Rand, name string) api.Limit {
	n := []int{r.Intn(9), r.Intn(9), r.Intn(9), r.Intn(9)}
	slices.Sort(n)
	return api.Limit{Param: name, LowLow: n[0], Low: n[1], High: n[2], HighHigh: n[3], Count: 1 + r.Intn(3), Clear: 1 + r.Intn(3), Back: r.Intn(3)}
}

func randomLimits(r *rand.Rand, many int) []api.Limit {
	var l []api.Limit
	for _, name := range named(many) {
		l = append(l, randomLimit(r, name))
	}
	return l
}

// randomSamples are of parameters with the first so many names; many of them come in a row.
func randomSamples(r *rand.Rand, names, many int) []api.Sample {
	var l []api.Sample
	value := 4
	for at := 0; len(l) < many; at += 1 + r.Intn(3) {
		for _, name := range named(names) {
			if r.Intn(3) == 0 {
				value = r.Intn(13) - 2
			}
			if r.Intn(2) == 0 {
				l = append(l, api.Sample{At: at, Param: name, Value: value})
			}
		}
	}
	return l[:many]
}

func pick(r *rand.Rand, l []string) string { return l[r.Intn(len(l))] }

// randomWatch has so many modes, rules and names of events at most.
func randomWatch(r *rand.Rand, modes, rules, names int) api.Watch {
	w := api.Watch{Modes: named(1 + r.Intn(modes))}
	w.Mode = pick(r, w.Modes)
	all := named(1 + r.Intn(names))
	for _, from := range w.Modes {
		for _, event := range all {
			if r.Intn(3) == 0 {
				w.Changes = append(w.Changes, api.ModeChange{From: from, Event: event, To: pick(r, w.Modes)})
			}
		}
	}
	ruleNames := named(r.Intn(rules + 1))
	for _, name := range ruleNames {
		x := api.WatchRule{Name: name, Event: pick(r, all), Once: r.Intn(3) == 0}
		if r.Intn(2) == 0 {
			x.Mode = pick(r, w.Modes)
		}
		for range r.Intn(4) {
			a := api.Act{Kind: 1 + r.Intn(4), Name: pick(r, all)}
			if a.Kind == api.ActOn || a.Kind == api.ActOff {
				a.Name = pick(r, ruleNames)
			}
			a.Off = a.Kind == api.ActSwitch && r.Intn(2) == 0
			x.Acts = append(x.Acts, a)
		}
		w.Rules = append(w.Rules, x)
	}
	return w
}

func randomEvents(r *rand.Rand, names, many int) []api.Event {
	var l []api.Event
	at := 0
	for range many {
		at += r.Intn(3)
		l = append(l, api.Event{At: at, Name: pick(r, named(names))})
	}
	return l
}

// withWatch calls all functions that have a watch, with other arguments that are right with the modes a and b, or not at all; it returns their faults.
func withWatch(w api.Watch, l []api.Event, at int, from, to string, outside []string) map[string]api.Fault {
	faults := map[string]api.Fault{"CheckWatch": monitor.CheckWatch(w)}
	fired, f := monitor.Play(w, l)
	faults["Play"] = fault(fired, f)
	mode, f := monitor.ModeAt(w, l, at)
	faults["ModeAt"] = fault(mode, f)
	units, f := monitor.UnitsOn(w, l, at)
	faults["UnitsOn"] = fault(units, f)
	names, f := monitor.Reached(w, from)
	faults["Reached"] = fault(names, f)
	names, is, f := monitor.Ways(w, from, to)
	faults["Ways"] = fault(names, is, f)
	names, f = monitor.Traps(w, from)
	faults["Traps"] = fault(names, f)
	names, is, f = monitor.Loops(w)
	faults["Loops"] = fault(names, is, f)
	names, f = monitor.Never(w, outside)
	faults["Never"] = fault(names, f)
	text, f := monitor.Text(w)
	faults["Text"] = fault(text, f)
	return faults
}
