package clock_test

import (
	"math/big"
	"math/rand"
	"testing"

	"perigee/api"
	"perigee/clock"
)

// even takes just a millisecond a tick.
var even = api.Clock{Slow: api.MaxRate, Fast: api.MaxRate}

// C3.
func TestCheckClock(t *testing.T) {
	for _, c := range []struct {
		name string
		c    api.Clock
		want api.Fault
	}{
		{"least", api.Clock{Slow: 1, Fast: 1}, api.OK},
		{"ordinary", api.Clock{Slow: 900000, Fast: 950000}, api.OK},
		{"greatest", even, api.OK},
		{"widest", api.Clock{Slow: 1, Fast: api.MaxRate}, api.OK},
		{"slow below", api.Clock{Slow: 0, Fast: 1}, api.ErrRange},
		{"slow above", api.Clock{Slow: api.MaxRate + 1, Fast: api.MaxRate}, api.ErrRange},
		{"fast below", api.Clock{Slow: 1, Fast: 0}, api.ErrRange},
		{"fast above", api.Clock{Slow: 1, Fast: api.MaxRate + 1}, api.ErrRange},
		{"far below", api.Clock{Slow: -1 << 63, Fast: -1 << 63}, api.ErrRange},
		{"order", api.Clock{Slow: 5, Fast: 4}, api.ErrOrder},
	} {
		wantFault(t, c.name, clock.CheckClock(c.c), c.want)
		_, _, f := clock.Window(c.c, oneTick(1), 1)
		wantFault(t, "Window: "+c.name, f, c.want)
		_, f = clock.Clashes(c.c, oneTick(1))
		wantFault(t, "Clashes: "+c.name, f, c.want)
	}
}

func TestWindow(t *testing.T) {
	loose := api.Clock{Slow: 333333, Fast: 666667}
	one := []api.Mark{{Tick: 100, Time: 1000, Off: 5}}
	for _, c := range []struct {
		name        string
		c           api.Clock
		m           []api.Mark
		tick        int
		first, last int
	}{
		{"at the mark", loose, one, 100, 995, 1005},
		{"behind", api.Clock{Slow: 900000, Fast: 1000000}, one, 200, 1085, 1105},
		{"before", api.Clock{Slow: 900000, Fast: 1000000}, one, 0, 895, 915},
		{"one behind is rounded out", loose, one, 101, 995, 1006},
		{"one before is rounded out", loose, one, 99, 994, 1005},
		{"the least bit is rounded out", api.Clock{Slow: 1, Fast: 1}, one, 101, 995, 1006},
		{"the least bit before is rounded out", api.Clock{Slow: 1, Fast: 1}, one, 99, 994, 1005},
		{"two behind are rounded out", loose, one, 102, 995, 1007},
		{"two before are rounded out", loose, one, 98, 993, 1005},
		{"whole numbers are not rounded", api.Clock{Slow: 500000, Fast: 750000}, one, 104, 997, 1008},
		{"whole numbers before are not rounded", api.Clock{Slow: 500000, Fast: 750000}, one, 96, 992, 1003},
		{"below 0", even, []api.Mark{{Tick: 100, Time: 10, Off: 3}}, 0, -93, -87},
		{"two marks", even, []api.Mark{{Tick: 0, Time: 10, Off: 4}, {Tick: 10, Time: 17, Off: 5}}, 20, 26, 32},
		{"the first one tells more", even, []api.Mark{{Tick: 0, Time: 10, Off: 1}, {Tick: 10, Time: 17, Off: 9}}, 20, 29, 31},
		{"just a moment", even, []api.Mark{{Tick: 0, Time: 10, Off: 1}, {Tick: 10, Time: 17, Off: 2}}, 0, 9, 9},
		{
			"bounds", api.Clock{Slow: 1, Fast: api.MaxRate},
			[]api.Mark{{Tick: 0, Time: api.MaxMoment, Off: api.MaxOff}}, api.MaxTick,
			api.MaxMoment - api.MaxOff + api.MaxTick/1000000, api.MaxMoment + api.MaxOff + api.MaxTick,
		},
		{
			"bounds before", api.Clock{Slow: 1, Fast: api.MaxRate},
			[]api.Mark{{Tick: api.MaxTick, Time: 0, Off: api.MaxOff}}, 0,
			-api.MaxTick - api.MaxOff, api.MaxOff - api.MaxTick/1000000,
		},
	} {
		first, last, f := clock.Window(c.c, c.m, c.tick)
		wantFault(t, c.name, f, api.OK)
		wantSame(t, c.name, []int{first, last}, []int{c.first, c.last})
	}
}

func TestWindowFaults(t *testing.T) {
	apart := []api.Mark{{Tick: 0, Time: 10, Off: 1}, {Tick: 10, Time: 17, Off: 1}}
	for _, c := range []struct {
		name string
		c    api.Clock
		m    []api.Mark
		tick int
		want api.Fault
	}{
		{"clock before marks", api.Clock{Slow: 2, Fast: 1}, nil, -1, api.ErrOrder},
		{"marks before the tick", even, nil, -1, api.ErrNone},
		{"tick below", even, oneTick(1), -1, api.ErrRange},
		{"tick above", even, oneTick(1), api.MaxTick + 1, api.ErrRange},
		{"tick before the clash", even, apart, -1, api.ErrRange},
		{"clash", even, apart, 5, api.ErrClash},
		{"clash by one", even, []api.Mark{{Tick: 0, Time: 10, Off: 1}, {Tick: 10, Time: 18, Off: 0}}, 5, api.ErrClash},
		{"clash the other way", even, []api.Mark{{Tick: 0, Time: 10, Off: 1}, {Tick: 10, Time: 22, Off: 0}}, 5, api.ErrClash},
		{"clash of marks far from each other", even, append(apart, api.Mark{Tick: 12, Time: 20, Off: 100}), 5, api.ErrClash},
	} {
		first, last, f := clock.Window(c.c, c.m, c.tick)
		wantFault(t, c.name, f, c.want)
		wantSame(t, c.name, []int{first, last}, []int{0, 0})
	}
	_, _, f := clock.Window(even, oneTick(1), api.MaxTick)
	wantFault(t, "the greatest tick is one", f, api.OK)
}

// possible is from when to when the time at a tick can be by one mark, by shares without a limit.
func possible(c api.Clock, m api.Mark, tick int) (int, int) {
	down := func(n, per int) int {
		x := new(big.Int).Mul(big.NewInt(int64(n)), big.NewInt(int64(per)))
		return int(x.Div(x, big.NewInt(1000000)).Int64())
	}
	d := tick - m.Tick
	early, late := c.Slow, c.Fast
	if d < 0 {
		early, late = c.Fast, c.Slow
	}
	// Rounded up is the other way around rounded down.
	return m.Time - m.Off + down(d, early), m.Time + m.Off - down(-d, late)
}

func TestWindowIsThatOfAllMarks(t *testing.T) {
	r := rand.New(rand.NewSource(6))
	clashes := 0
	for n := range 3000 {
		steep := []int{3, 20, 1000, 100000000000}[n%4]
		slow := 1 + r.Intn(api.MaxRate)
		c := api.Clock{Slow: slow, Fast: slow + r.Intn(api.MaxRate-slow+1)}
		m := randomMarks(r, 1+r.Intn(5), steep, min(4*steep, api.MaxOff))
		tick := r.Intn(min(8*steep, api.MaxTick) + 1)
		first, last := possible(c, m[0], tick)
		for _, x := range m[1:] {
			from, to := possible(c, x, tick)
			first, last = max(first, from), min(last, to)
		}
		want := api.OK
		if last < first {
			first, last, want = 0, 0, api.ErrClash
			clashes++
		}
		from, to, f := clock.Window(c, m, tick)
		wantFault(t, "Window", f, want)
		wantSame(t, "Window", []int{from, to}, []int{first, last})
	}
	if clashes < 100 || clashes > 2900 {
		t.Errorf("%d clashes: the marks are no good test", clashes)
	}
}

func TestClashes(t *testing.T) {
	for _, c := range []struct {
		name string
		c    api.Clock
		m    []api.Mark
		want []int
	}{
		{"one mark", even, oneTick(5), nil},
		{"right marks", even, oneTick(1, 2, 3), nil},
		{"two that touch", even, []api.Mark{{Tick: 0, Time: 10, Off: 1}, {Tick: 10, Time: 17, Off: 2}}, nil},
		{"two that do not", even, []api.Mark{{Tick: 0, Time: 10, Off: 1}, {Tick: 10, Time: 17, Off: 1}}, []int{0, 1}},
		{"two that touch the other way", even, []api.Mark{{Tick: 0, Time: 10, Off: 1}, {Tick: 10, Time: 23, Off: 2}}, nil},
		{"two that do not the other way", even, []api.Mark{{Tick: 0, Time: 10, Off: 1}, {Tick: 10, Time: 24, Off: 2}}, []int{0, 1}},
		{"one in the middle", even, []api.Mark{{Tick: 0, Time: 0, Off: 9}, {Tick: 10, Time: 30, Off: 1}, {Tick: 30, Time: 31, Off: 40}}, []int{0, 1}},
		{"not with what lies between", even, []api.Mark{{Tick: 0, Time: 10, Off: 1}, {Tick: 5, Time: 14, Off: 50}, {Tick: 10, Time: 17, Off: 1}}, []int{0, 2}},
		{"an own moment is enough", api.Clock{Slow: 1, Fast: api.MaxRate}, []api.Mark{{Tick: 0, Time: 0}, {Tick: 10, Time: 10}, {Tick: 20, Time: 11}}, nil},
		{"too fast", api.Clock{Slow: 1, Fast: api.MaxRate}, []api.Mark{{Tick: 0, Time: 0}, {Tick: 10, Time: 11}}, []int{0, 1}},
		{"rounding lets it be", api.Clock{Slow: 333333, Fast: 666667}, []api.Mark{{Tick: 0, Time: 0}, {Tick: 1, Time: 1}, {Tick: 4, Time: 2}}, nil},
	} {
		got, f := clock.Clashes(c.c, c.m)
		wantFault(t, c.name, f, api.OK)
		wantList(t, c.name, got, c.want)
	}
}

func TestClashesAreThoseOfPairs(t *testing.T) {
	r := rand.New(rand.NewSource(7))
	for n := range 1000 {
		steep := []int{3, 20, 1000}[n%3]
		slow := 1 + r.Intn(api.MaxRate)
		c := api.Clock{Slow: slow, Fast: slow + r.Intn(api.MaxRate-slow+1)}
		m := randomMarks(r, 1+r.Intn(6), steep, steep)
		var want []int
		for i, x := range m {
			clash := false
			for j, other := range m {
				first, last := possible(c, other, x.Tick)
				clash = clash || i != j && (last < x.Time-x.Off || first > x.Time+x.Off)
			}
			if clash {
				want = append(want, i)
			}
		}
		got, f := clock.Clashes(c, m)
		wantFault(t, "Clashes", f, api.OK)
		wantList(t, "Clashes", got, want)
	}
}

// TestTheRightTimeIsInTheWindow: of a clock that keeps its bounds, by marks that are right; and the more of them there are, the narrower it is.
func TestTheRightTimeIsInTheWindow(t *testing.T) {
	r := rand.New(rand.NewSource(8))
	for range 300 {
		slow := 500000 + r.Intn(400000)
		c := api.Clock{Slow: slow, Fast: slow + r.Intn(100000)}
		micros := []int{r.Intn(1000000)} // of each tick, in millionths of a millisecond
		for range 2000 {
			micros = append(micros, micros[len(micros)-1]+c.Slow+r.Intn(c.Fast-c.Slow+1))
		}
		var m []api.Mark
		for tick := r.Intn(50); tick < len(micros); tick += 20 + r.Intn(100) {
			off := 1 + r.Intn(5)
			// What is told is a whole number; the right time is up to off away from it.
			m = append(m, api.Mark{Tick: tick, Time: micros[tick]/1000000 + r.Intn(2*off) - off + 1, Off: off})
		}
		m[0].Time, m[0].Off = micros[m[0].Tick]/1000000, 1
		clashes, f := clock.Clashes(c, m)
		wantFault(t, "Clashes", f, api.OK)
		wantList(t, "Clashes", clashes, nil)
		tick := r.Intn(len(micros))
		wide := 1 << 62
		for many := 1; many <= len(m); many++ {
			first, last, f := clock.Window(c, m[:many], tick)
			wantFault(t, "Window", f, api.OK)
			if micros[tick] < first*1000000 || micros[tick] > last*1000000 || last-first > wide {
				t.Errorf("Window from %d to %d: the time is %d millionths; it was %d wide with fewer marks", first, last, micros[tick], wide)
			}
			wide = last - first
		}
	}
}

func TestClashesOfManyMarks(t *testing.T) {
	m := manyMarks(api.MaxMarks)
	m[700].Off = api.MaxOff
	got, f := clock.Clashes(api.Clock{Slow: 1, Fast: api.MaxRate}, m)
	wantFault(t, "Clashes", f, api.OK)
	wantList(t, "Clashes", got, nil)
	got, f = clock.Clashes(even, m)
	wantFault(t, "Clashes", f, api.OK)
	wantSame(t, "Clashes", len(got), api.MaxMarks-1)
}
