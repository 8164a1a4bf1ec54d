package monitor_test

import (
	"fmt"
	"math/rand"
	"strings"
	"testing"

	"perigee/api"
	"perigee/monitor"
)

// statesBehind returns the states behind each value of one parameter.
func statesBehind(t *testing.T, line, values string) []int {
	t.Helper()
	s := valuesOf("a", numbers(values))
	var states []int
	for at := range s {
		l, f := monitor.States(limits(line), s, at)
		wantFault(t, line, f, api.OK)
		wantSame(t, line, len(l), 1)
		states = append(states, l...)
	}
	return states
}

// F2.
func TestStatesBehindValues(t *testing.T) {
	for _, c := range []struct{ name, limit, values, want string }{
		{"the document's example", "a -5 0 10 20 2 1 1", "11 12 25 26 10 9", "0 1 1 2 1 0"},
		{"at once", "a -5 0 10 20 1 1 0", "5 11 21 20 10 -1 -6 -5 0", "0 1 2 1 0 1 2 1 0"},
		{"to an alarm at once", "a -5 0 10 20 2 1 0", "21 21 5 -6 -6", "0 2 0 0 2"},
		{"the least bad of the last ones", "a -5 0 10 20 3 1 0", "21 21 11 21 21 21 5", "0 0 1 1 1 2 0"},
		{"the least bad is the first one", "a -5 0 10 20 3 1 0", "11 21 21 21", "0 0 1 2"},
		{"a good one in between", "a -5 0 10 20 2 1 0", "11 5 11 10 11 11", "0 0 0 0 0 1"},
		{"fewer than Count", "a -5 0 10 20 3 1 0", "21 21", "0 0"},
		{"no worse one behind a warning", "a -5 0 10 20 2 1 0", "11 11 21 11 21 21", "0 1 1 1 1 2"},
		{"both sides are bad", "a -5 0 10 20 2 1 0", "11 -1 21 -6", "0 1 1 2"},
		{"samples ahead of the last change count", "a -5 0 10 20 2 1 0", "11 21 21", "0 1 2"},
		{"samples ahead of the last change count for a better state", "a -5 0 10 20 1 2 0", "5 5 21 5 11 5 5", "0 0 2 2 1 1 0"},
		{"an alarm, and ahead of it values that were good", "a -5 0 10 20 2 3 0", "5 21 21 5 21 5 5 5", "0 0 2 2 2 2 2 0"},
		{"the worst of the last ones", "a -5 0 10 20 1 3 0", "21 5 5 11 5 5 5", "2 2 2 1 1 1 0"},
		{"the worst is the first one", "a -5 0 10 20 1 3 0", "21 11 5 5 5", "2 2 2 1 0"},
		{"an alarm in between", "a -5 0 10 20 1 2 0", "21 5 21 5 5", "2 2 2 2 0"},
		{"a warning is no better than a warning", "a -5 0 10 20 1 2 0", "11 11 5 11 5 10", "1 1 1 1 1 0"},
		{"by Back inside", "a -5 0 10 20 1 1 3", "11 8 7 21 18 17 8 7", "1 1 0 2 2 1 1 0"},
		{"by Back inside, from below", "a -5 0 10 20 1 1 3", "-1 2 3 -6 -3 -2 2 3", "1 1 0 2 2 1 1 0"},
		{"Back does not matter on the way to a worse one", "a -5 0 10 20 1 1 100", "10 11 20 21 5", "0 1 1 2 2"},
		{"Back is too much on the one side, or on the other one", "a -5 0 10 20 1 1 6", "11 4 5 6 -1 4 5 6", "1 1 1 1 1 1 1 1"},
		{"an alarm becomes a warning by Back", "a -5 0 10 20 1 1 6", "21 5 4 6", "2 1 1 1"},
		{"the worst by Back of several", "a -5 0 10 20 1 2 1", "21 9 10 9 9", "2 2 1 1 0"},
		{"Back of one of them is too much", "a -5 0 10 20 1 2 1", "21 9 20 9 19 9 9", "2 2 2 2 1 1 0"},
		{"a worse one ahead of a better one", "a -5 0 10 20 1 1 0", "11 21 11 5", "1 2 1 0"},
		{"no warnings", "a 0 0 10 10 1 1 0", "10 11 10 0 -1 0", "0 2 0 0 2 0"},
		{"all that is asked with Back is out of range", "a -1000000000 -1000000000 1000000000 1000000000 1 1 1000000000", "1000000000 -1000000000 0", "0 0 0"},
		{"Back beyond MaxValue", "a -1000000000 -1 1 1000000000 1 1 1000000000", "2 1 0 1000000000 0", "1 1 1 1 1"},
		{"Back up to the bound", "a -1000000000 0 1000000000 1000000000 1 1 500000000", "-1 1000000000 500000001 500000000", "1 1 1 0"},
		{"good is never better", "a 0 0 10 10 1 1 0", "5 5 5", "0 0 0"},
	} {
		wantList(t, c.name, statesBehind(t, c.limit, c.values), numbers(c.want))
	}
}

// TestCountAndClearAtTheBound: each of the last ones counts, but not the one ahead of them.
func TestCountAndClearAtTheBound(t *testing.T) {
	many := func(value string, times int) string { return strings.Repeat(value+" ", times) }
	bad, good := many("21", api.MaxRepeats), many("5", api.MaxRepeats)
	for _, c := range []struct {
		values string
		want   int
	}{
		{many("21", 99), 0},
		{bad, 2},
		{many("21", 50) + "11 " + many("21", 49), 1},
		{"11 " + many("21", 99), 1},
		{"11 " + bad, 2},
		{"5 " + many("21", 99), 0},
		{many("21", 99) + "5 " + many("21", 99), 0},
		{"5 " + bad, 2},
		{bad + many("5", 99), 2},
		{bad + good, 0},
		{bad + "11 " + many("5", 99), 1},
		{bad + "11 " + good, 0},
		{bad + many("5", 99) + "21 " + many("5", 99), 2},
	} {
		states := statesBehind(t, "a -5 0 10 20 100 100 0", c.values)
		wantSame(t, c.values, states[len(states)-1], c.want)
	}
}

func TestFollow(t *testing.T) {
	long := strings.Repeat("z", api.MaxName)
	two := []string{"a -5 0 10 20 1 1 0", "b -5 0 10 20 2 1 0"}
	for _, c := range []struct {
		name    string
		limits  []string
		samples string
		want    string
	}{
		{"the document's example", []string{"a -5 0 10 20 2 1 1"}, "0:a=11 1:a=12 2:a=25 3:a=26 4:a=10 5:a=9", "1:a-warn 3:a-alarm 4:a-warn 5:a-good"},
		{"nothing", nil, "", ""},
		{"no limits", nil, "0:a=99 1:a=99", ""},
		{"no samples", two, "", ""},
		{"good values", two, "0:a=5 0:b=5 7:a=0 7:b=10", ""},
		{"two at one moment", two, "5:a=99 5:b=99 6:a=5 6:b=99 7:b=5", "5:a-alarm 6:a-good 6:b-alarm 7:b-good"},
		{"samples of others do not matter", two, "1:aa=99 2:b=11 3:a=5 4:c=5 5:b=12 6:aa=5", "5:b-warn"},
		{"a long name", []string{long + " 0 0 0 0 1 1 0"}, "1000000000000:" + long + "=1", "1000000000000:" + long + "-alarm"},
	} {
		got, f := monitor.Follow(limits(c.limits...), samples(c.samples))
		wantFault(t, c.name, f, api.OK)
		wantList(t, c.name, got, events(c.want))
	}
}

func TestStates(t *testing.T) {
	l := limits("a -5 0 10 20 1 1 0", "b -5 0 10 20 2 1 0", "c -5 0 10 20 1 1 0")
	s := samples("5:a=99 5:b=11 7:a=5 7:b=11 7:d=99 1000000000000:a=11")
	for at, want := range map[int]string{0: "0 0 0", 4: "0 0 0", 5: "2 0 0", 6: "2 0 0", 7: "0 1 0", 8: "0 1 0", api.MaxMoment - 1: "0 1 0", api.MaxMoment: "1 1 0"} {
		got, f := monitor.States(l, s, at)
		wantFault(t, "States", f, api.OK)
		wantList(t, fmt.Sprint("States at ", at), got, numbers(want))
	}
	for _, s := range [][]api.Sample{nil, samples("0:aa=99")} {
		got, f := monitor.States(l, s, 9)
		wantFault(t, "no samples", f, api.OK)
		wantList(t, "no samples", got, numbers("0 0 0"))
	}
	got, f := monitor.States(nil, s, 9)
	wantFault(t, "no limits", f, api.OK)
	wantList(t, "no limits", got, nil)
}

func TestLongest(t *testing.T) {
	one := []string{"a -5 0 10 20 1 1 0"}
	two := []string{"a -5 0 10 20 1 1 0", "b -5 0 10 20 2 2 0"}
	for _, c := range []struct {
		name    string
		limits  []string
		samples string
		want    []string // of each state the name and how long, or nothing
	}{
		{"nothing", nil, "", []string{"", "", ""}},
		{"no limits", nil, "5:a=5 9:a=99", []string{"", "", ""}},
		{"no samples", two, "", []string{"", "", ""}},
		{"no samples of theirs", two, "5:aa=5 9:aa=99", []string{"", "", ""}},
		{"one good sample", one, "5:a=5", []string{"a 0", "", ""}},
		{"one warning", one, "5:a=11", []string{"", "a 0", ""}},
		{"one alarm", one, "5:a=21", []string{"", "", "a 0"}},
		{"good to the end", one, "5:a=5 9:a=5 12:a=5", []string{"a 7", "", ""}},
		{"good until it is not", one, "5:a=5 9:a=5 12:a=11", []string{"a 7", "a 0", ""}},
		{"good at the end", one, "5:a=11 9:a=5 12:a=5 13:b=5", []string{"a 3", "a 4", ""}},
		{"the first of the longest", one, "0:a=5 2:a=11 5:a=5 7:a=11 11:a=21 12:a=11 16:a=5", []string{"a 2", "a 4", "a 1"}},
		{"the longest is the first one", one, "0:a=5 5:a=11 7:a=5 9:a=21", []string{"a 5", "a 2", "a 0"}},
		{"the longest is the last one", one, "0:a=5 1:a=11 7:a=5 9:a=11 19:a=11", []string{"a 2", "a 10", ""}},
		{"a break", one, "0:a=11 5:a=5 5:b=5 6:a=11 10:a=11 12:a=5", []string{"a 1", "a 6", ""}},
		{"from one bad state to the other one", one, "0:a=11 5:a=21 7:a=11 8:a=5", []string{"a 0", "a 5", "a 2"}},
		{"of several the least name", two, "0:a=5 0:b=5 5:a=5 5:b=5", []string{"a 5", "", ""}},
		{"the greater name is longer", two, "0:a=5 0:b=5 5:a=5 6:b=5", []string{"b 6", "", ""}},
		{"the greater name alone", two, "5:b=5 6:a=99", []string{"b 0", "", "a 0"}},
		{"behind Count, and behind Clear", two, "0:b=99 3:b=99 7:b=5 12:b=5 19:b=5 19:c=5", []string{"b 7", "", "b 9"}},
		{"the name of the end is another one", two, "0:a=11 0:b=11 4:a=5 4:b=11 9:b=5 10:b=5", []string{"b 4", "b 6", ""}},
		{"all of the time", one, "0:a=11 1000000000000:a=11", []string{"", "a 1000000000000", ""}},
	} {
		for state, want := range c.want {
			param, long, is, f := monitor.Longest(limits(c.limits...), samples(c.samples), state)
			wantFault(t, c.name, f, api.OK)
			wantSame(t, c.name, is, want != "")
			got := ""
			if is {
				got = fmt.Sprint(param, " ", long)
			}
			wantSame(t, fmt.Sprint(c.name, ", state ", state), got, want)
			if !is {
				wantSame(t, c.name, fmt.Sprint(param, long), "0")
			}
		}
	}
}

// TestErrorsOfWhatFollows: limits, then samples, then the number.
func TestErrorsOfWhatFollows(t *testing.T) {
	try := func(name string, l []api.Limit, s []api.Sample, want api.Fault) {
		t.Helper()
		events, f := monitor.Follow(l, s)
		wantFault(t, "Follow: "+name, fault(events, f), want)
		for _, n := range []int{-1, 0, 1, 2, 3, api.MaxMoment + 1} {
			states, f := monitor.States(l, s, n)
			wantFault(t, "States: "+name, fault(states, f), want)
			param, long, is, f := monitor.Longest(l, s, n)
			wantFault(t, "Longest: "+name, fault(param, long, is, f), want)
		}
	}
	wrongLimits(func(name string, l []api.Limit, want api.Fault) {
		try(name, l, nil, want)
		try(name, l, samples("5:?=0"), want)
		try(name, l, samples("-5:a=0"), want)
	})
	wrongSamples(func(name string, s []api.Sample, want api.Fault) {
		try(name, nil, s, want)
		try(name, rightLimits(), s, want)
	})
	for _, n := range beyond(0, api.MaxMoment) {
		states, f := monitor.States(rightLimits(), rightSamples(), n)
		wantFault(t, "at", fault(states, f), api.ErrRange)
	}
	for _, n := range beyond(api.WatchGood, api.WatchAlarm) {
		param, long, is, f := monitor.Longest(rightLimits(), rightSamples(), n)
		wantFault(t, "state", fault(param, long, is, f), api.ErrKind)
	}
}

func TestFollowAsTheDocumentSays(t *testing.T) {
	r := rand.New(rand.NewSource(81))
	for range 1500 {
		l, s := randomLimits(r, r.Intn(4)), randomSamples(r, 1+r.Intn(4), r.Intn(40))
		got, f := monitor.Follow(l, s)
		wantFault(t, "Follow", f, api.OK)
		wantList(t, "Follow", got, slowFollow(l, s))
		at := r.Intn(50)
		states, f := monitor.States(l, s, at)
		wantFault(t, "States", f, api.OK)
		wantList(t, "States", states, slowStatesAt(l, s, at))
		for state := range 3 {
			param, long, is, f := monitor.Longest(l, s, state)
			wantFault(t, "Longest", f, api.OK)
			wantParam, wantLong, wantIs := slowLongest(l, s, state)
			wantSame(t, "Longest", fmt.Sprint(param, long, is), fmt.Sprint(wantParam, wantLong, wantIs))
		}
	}
}

// TestWhatFollowsOfStates: with Count and Clear 1 and Back 0 it is the state of the last sample by itself; a state gets worse only behind Count samples that are all worse.
func TestWhatFollowsOfStates(t *testing.T) {
	r := rand.New(rand.NewSource(82))
	for range 500 {
		x := randomLimit(r, "a0000")
		s := randomSamples(r, 1, 30)
		before := 0
		for i, sample := range s {
			states, f := monitor.States([]api.Limit{x}, s, sample.At)
			wantFault(t, "States", f, api.OK)
			alone := x
			alone.Count, alone.Clear, alone.Back = 1, 1, 0
			last, _ := monitor.States([]api.Limit{alone}, s, sample.At)
			itself, _ := monitor.StateOf(alone, sample.Value)
			wantSame(t, "alone", last[0], itself)
			for n := 0; states[0] > before && n < x.Count; n++ {
				itself, _ := monitor.StateOf(x, s[max(0, i-n)].Value)
				wantSame(t, "worse", i >= n && itself > before, true)
			}
			before = states[0]
		}
	}
}

// TestMostOfAll is followed at the bounds.
func TestMostOfAll(t *testing.T) {
	l := manyLimits(api.MaxLimits)
	var s []api.Sample
	for at := range api.MaxSamples / api.MaxLimits {
		for _, x := range l {
			s = append(s, api.Sample{At: at, Param: x.Param, Value: 5 + 10*(at%2)})
		}
	}
	got, f := monitor.Follow(l, s)
	wantFault(t, "Follow", f, api.OK)
	wantSame(t, "Follow", len(got), api.MaxSamples-api.MaxLimits)
	wantSame(t, "the last one", got[len(got)-1], api.Event{At: 24, Name: "a0199-good"})
	states, f := monitor.States(l, s, 23)
	wantFault(t, "States", f, api.OK)
	wantSame(t, "States", fmt.Sprint(states), "["+strings.Repeat("1 ", api.MaxLimits-1)+"1]")
}
