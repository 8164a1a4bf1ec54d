package monitor_test

import (
	"fmt"
	"strings"
	"testing"

	"perigee/api"
	"perigee/monitor"
)

// rightLimits are two limits whose elements can be spoiled.
func rightLimits() []api.Limit {
	return limits("a -5 0 10 20 2 1 1", "b 0 0 0 0 100 100 1000000000", "c 1 2 3 4 1 1 0")
}

// wrongLimits are limits with errors, the first one in the document's order with its fault.
func wrongLimits(try func(name string, l []api.Limit, want api.Fault)) {
	l := []spoil[[]api.Limit]{
		{"too many", api.ErrLarge, func(l *[]api.Limit) {
			for len(*l) <= api.MaxLimits {
				*l = append(*l, (*l)[1])
			}
		}},
	}
	for _, name := range noNames {
		l = append(l, spoil[[]api.Limit]{"the name " + name, api.ErrName, func(l *[]api.Limit) { (*l)[1].Param = name }})
	}
	for _, n := range beyond(-api.MaxValue, api.MaxValue) {
		l = append(l, []spoil[[]api.Limit]{
			{"LowLow", api.ErrRange, func(l *[]api.Limit) { (*l)[1].LowLow = n }},
			{"Low", api.ErrRange, func(l *[]api.Limit) { (*l)[1].Low = n }},
			{"High", api.ErrRange, func(l *[]api.Limit) { (*l)[1].High = n }},
			{"HighHigh", api.ErrRange, func(l *[]api.Limit) { (*l)[1].HighHigh = n }},
		}...)
	}
	bounds := func(lowLow, low, high, highHigh int) func(l *[]api.Limit) {
		return func(l *[]api.Limit) {
			x := &(*l)[1]
			x.LowLow, x.Low, x.High, x.HighHigh = lowLow, low, high, highHigh
		}
	}
	l = append(l, []spoil[[]api.Limit]{
		{"LowLow above Low", api.ErrOrder, bounds(1, 0, 2, 3)},
		{"Low above High", api.ErrOrder, bounds(0, 2, 1, 3)},
		{"High above HighHigh", api.ErrOrder, bounds(0, 1, 3, 2)},
		{"all fall", api.ErrOrder, bounds(3, 2, 1, 0)},
	}...)
	for _, n := range beyond(1, api.MaxRepeats) {
		l = append(l, []spoil[[]api.Limit]{
			{"Count", api.ErrRange, func(l *[]api.Limit) { (*l)[1].Count = n }},
			{"Clear", api.ErrRange, func(l *[]api.Limit) { (*l)[1].Clear = n }},
		}...)
	}
	for _, n := range beyond(0, api.MaxValue) {
		l = append(l, spoil[[]api.Limit]{"Back", api.ErrRange, func(l *[]api.Limit) { (*l)[1].Back = n }})
	}
	l = append(l, []spoil[[]api.Limit]{
		{"a name again", api.ErrOrder, func(l *[]api.Limit) { (*l)[1].Param = "a" }},
		{"a lesser name", api.ErrOrder, func(l *[]api.Limit) { (*l)[0].Param = "bb" }},
		{"a name behind", api.ErrName, func(l *[]api.Limit) { (*l)[2].Param = "?" }},
		{"order behind", api.ErrOrder, func(l *[]api.Limit) { (*l)[2].Param = "b" }},
	}...)
	wrongs(rightLimits, l, try)
}

// F1.
func TestCheckLimits(t *testing.T) {
	for _, l := range [][]api.Limit{nil, rightLimits(), manyLimits(api.MaxLimits),
		limits("a -1000000000 -1000000000 1000000000 1000000000 1 1 0"),
		limits("a 1000000000 1000000000 1000000000 1000000000 1 1 0", "a-b -1000000000 -1000000000 -1000000000 -1000000000 1 1 0", "a0 0 0 0 0 1 1 0", "aa 0 0 0 0 1 1 0"),
	} {
		wantFault(t, fmt.Sprint(l), monitor.CheckLimits(l), api.OK)
	}
	for _, name := range rightNames {
		wantFault(t, name, monitor.CheckLimits(limits(name+" 0 0 0 0 1 1 0")), api.OK)
	}
	wrongLimits(func(name string, l []api.Limit, want api.Fault) {
		wantFault(t, name, monitor.CheckLimits(l), want)
	})
}

func rightSamples() []api.Sample {
	return samples("5:b=0 5:c=1000000000 6:a=-1000000000")
}

// wrongSamples are samples with errors, the first one in the document's order with its fault.
func wrongSamples(try func(name string, s []api.Sample, want api.Fault)) {
	l := []spoil[[]api.Sample]{
		{"too many", api.ErrLarge, func(l *[]api.Sample) {
			for len(*l) <= api.MaxSamples {
				*l = append(*l, (*l)[1])
			}
		}},
	}
	for _, n := range beyond(0, api.MaxMoment) {
		l = append(l, spoil[[]api.Sample]{"At", api.ErrRange, func(l *[]api.Sample) { (*l)[1].At = n }})
	}
	for _, name := range noNames {
		l = append(l, spoil[[]api.Sample]{"the name " + name, api.ErrName, func(l *[]api.Sample) { (*l)[1].Param = name }})
	}
	for _, n := range beyond(-api.MaxValue, api.MaxValue) {
		l = append(l, spoil[[]api.Sample]{"Value", api.ErrRange, func(l *[]api.Sample) { (*l)[1].Value = n }})
	}
	l = append(l, []spoil[[]api.Sample]{
		{"the same again", api.ErrOrder, func(l *[]api.Sample) { (*l)[1].Param = "b" }},
		{"a lesser name", api.ErrOrder, func(l *[]api.Sample) { (*l)[0].Param = "cc" }},
		{"a lesser moment", api.ErrOrder, func(l *[]api.Sample) { (*l)[0].At = 6 }},
		{"a moment behind", api.ErrRange, func(l *[]api.Sample) { (*l)[2].At = -1 }},
		{"order behind", api.ErrOrder, func(l *[]api.Sample) { (*l)[2].At = 5 }},
	}...)
	wrongs(rightSamples, l, try)
}

func TestCheckSamples(t *testing.T) {
	for _, s := range [][]api.Sample{nil, rightSamples(), valuesOf("a", make([]int, api.MaxSamples)),
		samples("0:b=0 1:a=0 1:b=0 1000000000000:a=0"),
		samples("7:a=0 7:a-b=0 7:a0=0 7:aa=0"),
	} {
		wantFault(t, "right", monitor.CheckSamples(s), api.OK)
	}
	for _, name := range rightNames {
		wantFault(t, name, monitor.CheckSamples(samples("5:"+name+"=5")), api.OK)
	}
	wrongSamples(func(name string, s []api.Sample, want api.Fault) {
		wantFault(t, name, monitor.CheckSamples(s), want)
	})
}

func TestStateOf(t *testing.T) {
	for _, c := range []struct {
		bounds string
		want   map[int]int
	}{
		{"-5 0 10 20", map[int]int{-api.MaxValue: 2, -6: 2, -5: 1, -4: 1, -1: 1, 0: 0, 1: 0, 9: 0, 10: 0, 11: 1, 19: 1, 20: 1, 21: 2, api.MaxValue: 2}},
		{"0 0 10 10", map[int]int{-1: 2, 0: 0, 10: 0, 11: 2}},
		{"7 7 7 7", map[int]int{6: 2, 7: 0, 8: 2}},
		{"0 7 7 9", map[int]int{-1: 2, 0: 1, 6: 1, 7: 0, 8: 1, 9: 1, 10: 2}},
		{"0 5 9 9", map[int]int{-1: 2, 0: 1, 4: 1, 5: 0, 9: 0, 10: 2}},
		{"0 0 5 9", map[int]int{-1: 2, 0: 0, 5: 0, 6: 1, 9: 1, 10: 2}},
		{"-1000000000 0 0 1000000000", map[int]int{-api.MaxValue: 1, -1: 1, 0: 0, 1: 1, api.MaxValue: 1}},
	} {
		for value, want := range c.want {
			state, f := monitor.StateOf(limit("a "+c.bounds+" 7 8 9"), value)
			wantFault(t, c.bounds, f, api.OK)
			wantSame(t, fmt.Sprint(value, " by ", c.bounds), state, want)
		}
	}
	for _, n := range beyond(-api.MaxValue, api.MaxValue) {
		state, f := monitor.StateOf(rightLimits()[0], n)
		wantFault(t, "value", fault(state, f), api.ErrRange)
	}
	wrongLimits(func(name string, l []api.Limit, want api.Fault) {
		if monitor.CheckLimits(l[1:2]) == want && !strings.Contains(name, "too many") {
			for _, value := range []int{0, api.MaxValue, api.MaxValue + 1} {
				state, f := monitor.StateOf(l[1], value)
				wantFault(t, name, fault(state, f), want)
			}
		}
	})
}
