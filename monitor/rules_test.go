package monitor_test

import (
	"math"
	"math/rand"
	"reflect"
	"slices"
	"strings"
	"testing"

	"perigee/api"
	"perigee/monitor"
)

// TestNothingPanics (R1): each function returns for all arguments.
func TestNothingPanics(t *testing.T) {
	numbers := []int{math.MinInt, -api.MaxValue - 1, -api.MaxValue, -1, 0, 1, 2, 3, 4, 5, 100, 101, api.MaxValue, api.MaxMoment, api.MaxMoment + 1, math.MaxInt}
	names := []string{"", "a", "b", "x", "?", strings.Repeat("a", 41)}
	right := rightWatch()
	for i, n := range numbers {
		for j, m := range numbers {
			for k, name := range names {
				l := []api.Limit{{Param: "a", LowLow: n, Low: m, High: m, HighHigh: n, Count: m, Clear: n, Back: m}, {Param: "b", Count: 100, Clear: 100, Back: api.MaxValue}, {Param: name, LowLow: n, Count: 1, Clear: 1}}
				s := []api.Sample{{At: 0, Param: "a", Value: n}, {At: n, Param: name, Value: m}, {At: m, Param: "b", Value: n}}
				for from := range l {
					monitor.StateOf(l[from], n)
					for _, l := range [][]api.Limit{nil, l[from:], l[from:min(from+2, 3)]} {
						monitor.CheckLimits(l)
						monitor.CheckSamples(s[from:])
						monitor.Follow(l, s[:from])
						monitor.States(l, s[from:], m)
						monitor.Longest(l, s[:from], j-3)
					}
				}
				w := watch("a b", "a e b", "p e * always", "q x * always")
				if (i+k)%3 > 0 {
					w.Changes[0], w.Mode = api.ModeChange{From: name, Event: "e", To: name}, name
				}
				w.Rules[i%2].Acts = []api.Act{{Kind: n, Name: name, Off: j%2 == 0}, {Kind: m, Name: "p"}, {Kind: j % 6, Name: "x"}}
				events := []api.Event{{At: n, Name: "e"}, {At: m, Name: name}, {At: m, Name: "x"}}
				for _, w := range []api.Watch{{}, w, right} {
					for from := range events {
						withWatch(w, events[from:], n, name, "b", []string{name, "x"}[i%2:])
					}
				}
			}
		}
	}
}

func TestNothingPanicsWithTexts(t *testing.T) {
	r := rand.New(rand.NewSource(89))
	for range 20000 {
		b := make([]byte, r.Intn(40))
		for i := range b {
			b[i] = "\x00\n\n  *aberulswitchon-\xff"[r.Intn(21)]
		}
		monitor.Read(string(b))
	}
}

// spare returns a slice with the same elements and spare capacity, and a function that says whether all of it is as it was.
func spare[E comparable](l []E) ([]E, func() bool) {
	all := append(slices.Clone(l), l...)
	was := slices.Clone(all)
	return all[:len(l)], func() bool { return slices.Equal(all, was) }
}

// blank changes all of a result, its spare capacity too.
func blank[E any](l []E) {
	clear(l[:cap(l)])
}

// TestArgumentsStayAsTheyAre (R2), their spare capacity too, also if the results are changed.
func TestArgumentsStayAsTheyAre(t *testing.T) {
	l, limitsAre := spare(limits("a -5 0 10 20 2 1 1", "b -5 0 10 20 1 3 0"))
	s, samplesAre := spare(samples("1:a=21 1:b=21 2:a=21 3:a=5 3:b=5 4:b=0 5:b=9"))
	e, eventsAre := spare(events("1:e 2:x 2:e 3:y 4:e"))
	outside, outsideIs := spare([]string{"e", "x"})
	same := []func() bool{limitsAre, samplesAre, eventsAre, outsideIs}
	w := rightWatch()
	modes, modesAre := spare(w.Modes)
	changes, changesAre := spare(w.Changes)
	w.Modes, w.Changes = modes, changes
	same = append(same, modesAre, changesAre)
	for i := range w.Rules {
		acts, actsAre := spare(w.Rules[i].Acts)
		w.Rules[i].Acts, same = acts, append(same, actsAre)
	}
	rules := append(slices.Clone(w.Rules), w.Rules...)
	w.Rules = rules[:4]
	wasRules := slices.Clone(rules)

	followed, f := monitor.Follow(l, s)
	wantFault(t, "Follow", f, api.OK)
	blank(followed)
	for at := range 7 {
		states, f := monitor.States(l, s, at)
		wantFault(t, "States", f, api.OK)
		blank(states)
		units, f := monitor.UnitsOn(w, e, at)
		wantFault(t, "UnitsOn", f, api.OK)
		blank(units)
		monitor.ModeAt(w, e, at)
		monitor.Longest(l, s, at%3)
	}
	told, f := monitor.Play(w, e)
	wantFault(t, "Play", f, api.OK)
	blank(told)
	for _, from := range slices.Clone(modes) {
		reached, f := monitor.Reached(w, from)
		wantFault(t, "Reached", f, api.OK)
		blank(reached)
		traps, f := monitor.Traps(w, from)
		wantFault(t, "Traps", f, api.OK)
		blank(traps)
		for _, to := range modes {
			way, _, f := monitor.Ways(w, from, to)
			wantFault(t, "Ways", f, api.OK)
			blank(way)
		}
	}
	ring, _, f := monitor.Loops(w)
	wantFault(t, "Loops", f, api.OK)
	blank(ring)
	for _, outside := range [][]string{nil, outside, outside[:1]} {
		never, f := monitor.Never(w, outside)
		wantFault(t, "Never", f, api.OK)
		blank(never)
	}
	_, f = monitor.Text(w)
	wantFault(t, "Text", f, api.OK)
	for i, is := range same {
		if !is() {
			t.Error("an argument was changed:", i)
		}
	}
	if !reflect.DeepEqual(rules, wasRules) {
		t.Error("rules were changed")
	}
}

// TestResultsAreTheirOwn (R2): no two parts of what is read share memory.
func TestResultsAreTheirOwn(t *testing.T) {
	const text = "mode a\nmode b\nmode c\nchange a e b\nchange b e c\nchange c e a\nbegin a\nrule p e * once\nraise x\nraise y\nraise z\nrule q e * once\nraise x\nrule r e * once\nrule s e * once\nraise x\nraise y\nraise z\nraise u\nraise v\n"
	w, _, f := monitor.Read(text)
	wantFault(t, "Read", f, api.OK)
	wantSame(t, "rules", len(w.Rules), 4)
	for _, x := range w.Rules {
		was := make([][]api.Act, len(w.Rules))
		for i, other := range w.Rules {
			was[i] = slices.Clone(other.Acts)
		}
		blank(x.Acts)
		for i, other := range w.Rules {
			wantSame(t, "an act is as it was", other.Name == x.Name || slices.Equal(other.Acts, was[i]), true)
		}
	}
	blank(w.Modes)
	blank(w.Changes)
	blank(w.Rules)
	wantRead(t, text, watch("a b c", "a e b", "b e c", "c e a", "p e * once: raise x, raise y, raise z", "q e * once: raise x", "r e * once", "s e * once: raise x, raise y, raise z, raise u, raise v"))
}

// TestNilAndEmptyAreTheSame (R4).
func TestNilAndEmptyAreTheSame(t *testing.T) {
	for _, s := range [][]api.Sample{nil, {}} {
		for _, l := range [][]api.Limit{nil, {}} {
			wantFault(t, "CheckLimits", monitor.CheckLimits(l), api.OK)
			wantFault(t, "CheckSamples", monitor.CheckSamples(s), api.OK)
			got, f := monitor.Follow(l, s)
			wantFault(t, "Follow", f, api.OK)
			wantList(t, "Follow", got, nil)
			states, f := monitor.States(l, s, 5)
			wantFault(t, "States", f, api.OK)
			wantList(t, "States", states, nil)
			_, _, is, f := monitor.Longest(l, s, 0)
			wantFault(t, "Longest", f, api.OK)
			wantSame(t, "Longest", is, false)
		}
	}
	for _, acts := range [][]api.Act{nil, {}} {
		for _, changes := range [][]api.ModeChange{nil, {}} {
			w := api.Watch{Modes: []string{"a"}, Mode: "a", Changes: changes, Rules: []api.WatchRule{{Name: "p", Event: "e", Acts: acts}}}
			for _, l := range [][]api.Event{nil, {}} {
				for of, f := range withWatch(w, l, 0, "a", "a", []string{}) {
					wantFault(t, of, f, api.OK)
				}
			}
			s, f := monitor.Text(w)
			wantFault(t, "Text", f, api.OK)
			wantSame(t, "Text", s, "mode a\nbegin a\nrule p e * always\n")
		}
		w := api.Watch{Modes: []string{"a"}, Mode: "a", Rules: []api.WatchRule{}}
		got, f := monitor.Play(w, events("5:e"))
		wantFault(t, "Play", f, api.OK)
		wantList(t, "Play", got, fired("5:e@a"))
	}
	for _, modes := range [][]string{nil, {}} {
		wantFault(t, "CheckWatch", monitor.CheckWatch(api.Watch{Modes: modes}), api.ErrNone)
	}
}

// TestResultsAreAlwaysTheSame (R4): nothing is kept from call to call.
func TestResultsAreAlwaysTheSame(t *testing.T) {
	r := rand.New(rand.NewSource(90))
	l, s := randomLimits(r, 9), randomSamples(r, 9, 60)
	w := rightWatch()
	w.Rules[2].Acts = w.Rules[2].Acts[:2]
	e := events("1:e 2:x 3:e 4:x 5:y 6:e 7:y")
	all := func() []any {
		followed, _ := monitor.Follow(l, s)
		states, _ := monitor.States(l, s, 20)
		told, _ := monitor.Play(w, e)
		units, _ := monitor.UnitsOn(w, e, 4)
		reached, _ := monitor.Reached(w, "b")
		way, is, _ := monitor.Ways(w, "b", "a")
		never, _ := monitor.Never(w, []string{"x"})
		text, _ := monitor.Text(w)
		return []any{followed, states, told, units, reached, way, is, never, text}
	}
	first := all()
	for range 20 {
		monitor.Follow(manyLimits(9), samples("5:a0001=99 5:a0002=99"))
		withWatch(looping(), events("5:x"), 5, "a", "a", nil)
		if !reflect.DeepEqual(all(), first) {
			t.Error("the results are others")
		}
	}
}
