package clock_test

import (
	"math/big"
	"math/rand"
	"testing"

	"perigee/api"
	"perigee/clock"
)

var example = []api.Mark{{Tick: 100, Time: 1000}, {Tick: 300, Time: 1400}}

// C2.
func TestCheckMarks(t *testing.T) {
	for _, c := range badMarks {
		wantFault(t, c.name, clock.CheckMarks(c.m), c.want)
	}
}

// TestMarksAreCheckedFirst: each function with marks has their fault before those of its other arguments, but behind that of the clock.
func TestMarksAreCheckedFirst(t *testing.T) {
	right, wrong := api.Clock{Slow: 1, Fast: 1}, api.Clock{}
	for _, c := range badMarks {
		if c.want == api.OK {
			continue
		}
		n, f := clock.TimeOf(c.m, -1)
		wantFault(t, "TimeOf: "+c.name, f, c.want)
		wantSame(t, "TimeOf: "+c.name, n, 0)
		n, f = clock.TickOf(c.m, -1)
		wantFault(t, "TickOf: "+c.name, f, c.want)
		wantSame(t, "TickOf: "+c.name, n, 0)
		a, b, f := clock.Rates(c.m)
		wantFault(t, "Rates: "+c.name, f, c.want)
		wantSame(t, "Rates: "+c.name, []api.Share{a, b}, make([]api.Share, 2))
		first, last, f := clock.Window(right, c.m, -1)
		wantFault(t, "Window: "+c.name, f, c.want)
		wantSame(t, "Window: "+c.name, []int{first, last}, []int{0, 0})
		_, _, f = clock.Window(wrong, c.m, -1)
		wantFault(t, "Window, clock: "+c.name, f, api.ErrRange)
		l, f := clock.Clashes(right, c.m)
		wantFault(t, "Clashes: "+c.name, f, c.want)
		wantList(t, "Clashes: "+c.name, l, nil)
		_, f = clock.Clashes(api.Clock{Slow: 2, Fast: 1}, c.m)
		wantFault(t, "Clashes, clock: "+c.name, f, api.ErrOrder)
		m, f := clock.Thin(c.m, -1)
		wantFault(t, "Thin: "+c.name, f, c.want)
		wantList(t, "Thin: "+c.name, m, nil)
		s, f := clock.Text(c.m)
		wantFault(t, "Text: "+c.name, f, c.want)
		wantSame(t, "Text: "+c.name, s, "")
	}
}

func TestTimeOf(t *testing.T) {
	three := []api.Mark{{Tick: 10, Time: 100}, {Tick: 20, Time: 200}, {Tick: 30, Time: 1200}}
	half := []api.Mark{{Tick: 4, Time: 1}, {Tick: 6, Time: 2}}
	for _, c := range []struct {
		name       string
		m          []api.Mark
		tick, want int
	}{
		{"between", example, 150, 1100},
		{"behind", example, 400, 1600},
		{"before", example, 0, 800},
		{"at the first one", example, 100, 1000},
		{"at the last one", example, 300, 1400},
		{"first line", three, 15, 150},
		{"first line before", three, 5, 50},
		{"first line down to the moment 0", three, 0, 0},
		{"at the middle", three, 20, 200},
		{"second line", three, 21, 300},
		{"second line behind", three, 31, 1300},
		{"half way is rounded up", half, 5, 2},
		{"half way before is rounded up", half, 3, 1},
		{"half way behind is rounded up", half, 7, 3},
		{"half below 0 is 0", half, 1, 0},
		{"a third is rounded down", []api.Mark{{}, {Tick: 3, Time: 1}}, 1, 0},
		{"two thirds are rounded up", []api.Mark{{}, {Tick: 3, Time: 1}}, 2, 1},
		{"a third less", []api.Mark{{Tick: 3, Time: 5}, {Tick: 6, Time: 6}}, 2, 5},
		{"two thirds less", []api.Mark{{Tick: 3, Time: 5}, {Tick: 6, Time: 6}}, 1, 4},
		{"greatest", []api.Mark{{}, {Tick: api.MaxTick, Time: api.MaxMoment}}, api.MaxTick, api.MaxMoment},
		{"greatest numbers", []api.Mark{{}, {Tick: api.MaxTick - 1, Time: api.MaxMoment - 1}}, api.MaxTick, api.MaxMoment},
		{"greatest, rounded down", []api.Mark{{Time: api.MaxMoment - 2}, {Tick: 5, Time: api.MaxMoment}}, 6, api.MaxMoment},
	} {
		got, f := clock.TimeOf(c.m, c.tick)
		wantFault(t, c.name, f, api.OK)
		wantSame(t, c.name, got, c.want)
	}
}

func TestTimeOfFaults(t *testing.T) {
	for _, c := range []struct {
		name string
		m    []api.Mark
		tick int
		want api.Fault
	}{
		{"tick below", example, -1, api.ErrRange},
		{"tick above", example, api.MaxTick + 1, api.ErrRange},
		{"tick above, with a time", []api.Mark{{}, {Tick: 2, Time: 1}}, api.MaxTick + 1, api.ErrRange},
		{"tick far below", example, -1 << 63, api.ErrRange},
		{"one mark", example[:1], 100, api.ErrState},
		{"tick before one mark", example[:1], -1, api.ErrRange},
		{"time below", []api.Mark{{Tick: 10}, {Tick: 12, Time: 2}}, 9, api.ErrRange},
		{"time far below", []api.Mark{{Tick: api.MaxTick - 1}, {Tick: api.MaxTick, Time: api.MaxMoment}}, 0, api.ErrRange},
		{"time just below", []api.Mark{{Tick: 4, Time: 1}, {Tick: 6, Time: 2}}, 0, api.ErrRange},
		{"time above", []api.Mark{{Time: 1}, {Tick: 1, Time: api.MaxMoment}}, 2, api.ErrRange},
		{"time far above", []api.Mark{{}, {Tick: 1, Time: api.MaxMoment}}, api.MaxTick, api.ErrRange},
		{"time rounded to one above", []api.Mark{{Time: api.MaxMoment - 1}, {Tick: 2, Time: api.MaxMoment}}, 3, api.ErrRange},
		{"time of a multiple of 2^64", []api.Mark{{}, {Tick: 1, Time: 1 << 39}}, 1 << 38, api.ErrRange},
		{"time between 2^63 and 2^64", []api.Mark{{}, {Tick: 1, Time: 1 << 39}}, 3 << 23, api.ErrRange},
	} {
		got, f := clock.TimeOf(c.m, c.tick)
		wantFault(t, c.name, f, c.want)
		wantSame(t, c.name, got, 0)
	}
}

// TestTimeOfIsExact compares with numbers without a limit, small and large ones.
func TestTimeOfIsExact(t *testing.T) {
	r := rand.New(rand.NewSource(2))
	for n := range 4000 {
		steep := []int{3, 20, 1000, 400000000, 100000000000}[n%5]
		m := randomMarks(r, 2+r.Intn(6), steep, 0)
		tick := r.Intn(min(10*steep, api.MaxTick) + 1)
		if n%7 == 0 {
			tick = m[r.Intn(len(m))].Tick
		}
		want, fault := exactTime(m, tick), api.OK
		if !isTime(want) {
			want, fault = new(big.Int), api.ErrRange
		}
		got, f := clock.TimeOf(m, tick)
		wantFault(t, "TimeOf", f, fault)
		wantSame(t, "TimeOf", int64(got), want.Int64())
	}
}

func TestTickOf(t *testing.T) {
	half := []api.Mark{{Tick: 4, Time: 1}, {Tick: 6, Time: 2}}
	for _, c := range []struct {
		name       string
		m          []api.Mark
		time, want int
	}{
		{"the chapter's example", example, 1101, 151},
		{"just a time", example, 1100, 150},
		{"at a mark", example, 1400, 300},
		{"behind", example, 1601, 401},
		{"from 0 on", example, 800, 0},
		{"less than at 0", example, 0, 0},
		{"one more than at 0", example, 801, 1},
		{"half way is rounded up", half, 2, 5},
		{"half way behind", half, 3, 7},
		{"times before 0 do not count", half, 0, 1},
		{"steeper than a tick", []api.Mark{{}, {Tick: 1, Time: 1000}}, 1, 1},
		{"times too great count", []api.Mark{{}, {Tick: 3, Time: api.MaxMoment - 1}}, api.MaxMoment, 4},
		{"far too great", []api.Mark{{Tick: api.MaxTick - 2, Time: 1}, {Tick: api.MaxTick - 1, Time: api.MaxMoment - 1}}, api.MaxMoment, api.MaxTick},
		{"greatest tick", []api.Mark{{}, {Tick: api.MaxTick, Time: 1000}}, 1000, api.MaxTick - 500000000},
	} {
		got, f := clock.TickOf(c.m, c.time)
		wantFault(t, c.name, f, api.OK)
		wantSame(t, c.name, got, c.want)
	}
}

func TestTickOfFaults(t *testing.T) {
	for _, c := range []struct {
		name string
		m    []api.Mark
		time int
		want api.Fault
	}{
		{"time below", example, -1, api.ErrRange},
		{"time above", example, api.MaxMoment + 1, api.ErrRange},
		{"one mark", example[:1], 1000, api.ErrState},
		{"time before one mark", example[:1], -1, api.ErrRange},
		{"no such tick", []api.Mark{{}, {Tick: api.MaxTick, Time: 1000}}, 1001, api.ErrRange},
		{"no such tick, just", []api.Mark{{}, {Tick: 2, Time: 1}}, api.MaxTick/2 + 1, api.ErrRange},
	} {
		got, f := clock.TickOf(c.m, c.time)
		wantFault(t, c.name, f, c.want)
		wantSame(t, c.name, got, 0)
	}
	got, f := clock.TickOf([]api.Mark{{}, {Tick: 2, Time: 1}}, api.MaxTick/2)
	wantFault(t, "last tick but one", f, api.OK)
	wantSame(t, "last tick but one", got, api.MaxTick-1)
	m := []api.Mark{{}, {Tick: api.MaxTick - 1, Time: api.MaxMoment - 2}}
	got, f = clock.TickOf(m, api.MaxMoment-1)
	wantFault(t, "last tick", f, api.OK)
	wantSame(t, "last tick", got, api.MaxTick)
	_, f = clock.TickOf(m, api.MaxMoment)
	wantFault(t, "behind the last tick", f, api.ErrRange)
}

func TestTickOfIsTheLeast(t *testing.T) {
	r := rand.New(rand.NewSource(3))
	for n := range 2000 {
		steep := []int{2, 5, 30, 1000000, 100000000000}[n%5]
		m := randomMarks(r, 2+r.Intn(6), steep, 0)
		time := big.NewInt(int64(r.Intn(min(12*steep, api.MaxMoment) + 1)))
		tick, f := clock.TickOf(m, int(time.Int64()))
		if f != api.OK {
			wantFault(t, "TickOf", f, api.ErrRange)
			if exactTime(m, api.MaxTick).Cmp(time) >= 0 {
				t.Errorf("TickOf(%v, %v): there is such a tick", m, time)
			}
			continue
		}
		if exactTime(m, tick).Cmp(time) < 0 || tick > 0 && exactTime(m, tick-1).Cmp(time) >= 0 {
			t.Errorf("TickOf(%v, %v): %d is not the least", m, time, tick)
		}
	}
}

// TestTimesFollowTicks: TimeOf never falls, at a mark it is its Time, and TickOf of it is not greater than the tick.
func TestTimesFollowTicks(t *testing.T) {
	r := rand.New(rand.NewSource(4))
	for n := range 100 {
		m := randomMarks(r, 2+r.Intn(8), []int{2, 9, 40}[n%3], 0)
		before := 0
		for tick := range m[len(m)-1].Tick + 20 {
			time, f := clock.TimeOf(m, tick)
			if f != api.OK {
				continue
			}
			if time < before {
				t.Errorf("TimeOf(%v, %d) fell from %d to %d", m, tick, before, time)
			}
			before = time
			if back, f := clock.TickOf(m, time); f != api.OK || back > tick {
				t.Errorf("TickOf of TimeOf(%v, %d) is %d", m, tick, back)
			}
		}
		for _, x := range m {
			time, f := clock.TimeOf(m, x.Tick)
			wantFault(t, "TimeOf at a mark", f, api.OK)
			wantSame(t, "TimeOf at a mark", time, x.Time)
		}
	}
}

func TestRates(t *testing.T) {
	for _, c := range []struct {
		name            string
		m               []api.Mark
		least, greatest api.Share
	}{
		{"one line", example, api.Share{Num: 2, Den: 1}, api.Share{Num: 2, Den: 1}},
		{"lowest terms", []api.Mark{{Tick: 1, Time: 2}, {Tick: 13, Time: 10}}, api.Share{Num: 2, Den: 3}, api.Share{Num: 2, Den: 3}},
		{"rising", []api.Mark{{}, {Tick: 4, Time: 2}, {Tick: 8, Time: 8}}, api.Share{Num: 1, Den: 2}, api.Share{Num: 3, Den: 2}},
		{"falling", []api.Mark{{}, {Tick: 4, Time: 6}, {Tick: 8, Time: 8}}, api.Share{Num: 1, Den: 2}, api.Share{Num: 3, Den: 2}},
		{"in the middle", []api.Mark{{}, {Tick: 1, Time: 4}, {Tick: 2, Time: 13}, {Tick: 3, Time: 14}, {Tick: 4, Time: 17}}, api.Share{Num: 1, Den: 1}, api.Share{Num: 9, Den: 1}},
		{"the last one alone", []api.Mark{{}, {Tick: 1, Time: 4}, {Tick: 2, Time: 5}, {Tick: 3, Time: 14}}, api.Share{Num: 1, Den: 1}, api.Share{Num: 9, Den: 1}},
		{
			"large, and nearly the same",
			[]api.Mark{{}, {Tick: 300000000001, Time: 300000000000}, {Tick: 600000000003, Time: 600000000001}},
			api.Share{Num: 300000000000, Den: 300000000001}, api.Share{Num: 300000000001, Den: 300000000002},
		},
		{
			"bounds",
			[]api.Mark{{}, {Tick: 1, Time: api.MaxMoment - 1}, {Tick: api.MaxTick, Time: api.MaxMoment}},
			api.Share{Num: 1, Den: api.MaxTick - 1}, api.Share{Num: api.MaxMoment - 1, Den: 1},
		},
	} {
		least, greatest, f := clock.Rates(c.m)
		wantFault(t, c.name, f, api.OK)
		wantSame(t, c.name+", least", least, c.least)
		wantSame(t, c.name+", greatest", greatest, c.greatest)
	}
	least, greatest, f := clock.Rates(example[:1])
	wantFault(t, "one mark", f, api.ErrState)
	wantSame(t, "one mark", []api.Share{least, greatest}, make([]api.Share, 2))
}

func TestRatesAreExact(t *testing.T) {
	r := rand.New(rand.NewSource(5))
	for n := range 500 {
		m := randomMarks(r, 2+r.Intn(8), []int{3, 50, 100000000000}[n%3], 0)
		least, greatest := big.NewRat(api.MaxMoment, 1), new(big.Rat)
		for i := range len(m) - 1 {
			rate := big.NewRat(int64(m[i+1].Time-m[i].Time), int64(m[i+1].Tick-m[i].Tick))
			if rate.Cmp(least) < 0 {
				least = rate
			}
			if rate.Cmp(greatest) > 0 {
				greatest = rate
			}
		}
		share := func(x *big.Rat) api.Share {
			return api.Share{Num: int(x.Num().Int64()), Den: int(x.Denom().Int64())}
		}
		a, b, f := clock.Rates(m)
		wantFault(t, "Rates", f, api.OK)
		wantSame(t, "Rates", []api.Share{a, b}, []api.Share{share(least), share(greatest)})
	}
}
