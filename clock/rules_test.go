package clock_test

import (
	"math"
	"slices"
	"testing"

	"perigee/api"
	"perigee/clock"
)

// TestNothingPanics (R1): each function returns for all arguments.
func TestNothingPanics(t *testing.T) {
	numbers := []int{math.MinInt, -api.MaxTick, -1, 0, 1, 4, 40, 64, api.MaxRate, api.MaxOff, api.MaxTick, api.MaxTick + 1, math.MaxInt}
	texts := []string{"", "\n", "1 2 3", "9223372036854775808 0 0\n", "2000-01-01T23:59:60.000", "\xff\xff-99-99T99:99:99.999", "9999-99-99T99:99:99.999"}
	for _, a := range numbers {
		for _, b := range numbers {
			c := api.Clock{Slow: a, Fast: b}
			for _, m := range [][]api.Mark{
				nil,
				{{Tick: a, Time: b, Off: a}},
				{{Tick: a, Time: a, Off: b}, {Tick: b, Time: b, Off: a}},
				{{Tick: 0, Time: 0, Off: b}, {Tick: 1, Time: a, Off: b}, {Tick: a, Time: api.MaxMoment}},
			} {
				clock.CheckMarks(m)
				clock.TimeOf(m, a)
				clock.TickOf(m, b)
				clock.Window(c, m, a)
				clock.Clashes(c, m)
				clock.Rates(m)
				clock.Merged(m, []api.Mark{{Tick: b, Time: a}})
				clock.Thin(m, b)
				clock.Text(m)
			}
			clock.CheckClock(c)
			clock.Unrolled([]int{a, b, a}, 40)
			clock.Unrolled([]int{a}, b)
			clock.Rolled([]int{a, b}, 4)
			clock.Rolled([]int{a}, b)
			clock.Code(a)
			clock.CheckLeaps([]int{a, b})
			for _, text := range texts {
				clock.Date([]int{a}, b)
				clock.ReadDate([]int{a, b}, text)
				clock.Read(text)
			}
		}
	}
	for n := range 20 {
		clock.ReadCode(make([]byte, n))
	}
}

// spare returns a slice with the same elements and spare capacity, and a function that says whether all of it is as it was.
func spare[E comparable](l []E) ([]E, func() bool) {
	all := append(slices.Clone(l), l...)
	was := slices.Clone(all)
	return all[:len(l)], func() bool { return slices.Equal(all, was) }
}

// TestArgumentsStayAsTheyAre (R2), their spare capacity too, also if the results are changed.
func TestArgumentsStayAsTheyAre(t *testing.T) {
	m, mIs := spare([]api.Mark{{Tick: 1, Time: 2, Off: 3}, {Tick: 4, Time: 5}, {Tick: 6, Time: 8}})
	other, otherIs := spare([]api.Mark{{Tick: 0, Time: 1}, {Tick: 4, Time: 5}})
	numbers, numbersIs := spare([]int{1, 2, 3})
	code, codeIs := spare([]byte{0, 0, 0, 1, 128, 0})
	change := func(l []api.Mark, f api.Fault) {
		wantFault(t, "marks", f, api.OK)
		l = append(l, api.Mark{Tick: 99})
		for i := range l {
			l[i].Tick = 77
		}
	}
	change(clock.Merged(m, other))
	change(clock.Merged(other, m))
	change(clock.Merged(m, m))
	change(clock.Thin(m, 0))
	change(clock.Thin(m, 10))
	change(clock.Thin(m[:1], 0))
	for _, turn := range []func([]int, int) ([]int, api.Fault){clock.Unrolled, clock.Rolled} {
		l, f := turn(numbers, 4)
		wantFault(t, "counter", f, api.OK)
		l = append(l, 5)
		l[0] = 77
	}
	clock.TimeOf(m, 3)
	clock.TickOf(m, 3)
	clock.Window(even, m, 3)
	clock.Rates(m)
	clock.Text(m)
	l, _ := clock.Clashes(even, m)
	l = append(l, 5)
	l[0] = 77
	clock.ReadCode(code)
	clock.Date(numbers, 5)
	clock.ReadDate(numbers, "2000-01-02T23:59:60.000")
	if !mIs() || !otherIs() || !numbersIs() || !codeIs() {
		t.Error("an argument was changed")
	}
}

// TestResultsAreAlwaysTheSame (R4): nothing is kept from call to call.
func TestResultsAreAlwaysTheSame(t *testing.T) {
	first, _ := clock.Unrolled([]int{3, 2, 1}, 4)
	clock.Unrolled([]int{15, 14, 13}, 4)
	again, f := clock.Unrolled([]int{3, 2, 1}, 4)
	wantFault(t, "Unrolled", f, api.OK)
	wantList(t, "Unrolled", again, first)
	_, f = clock.Rolled([]int{500}, 4)
	wantFault(t, "Rolled", f, api.OK)
	_, f = clock.Rolled([]int{5}, 4)
	wantFault(t, "Rolled", f, api.OK)
}
