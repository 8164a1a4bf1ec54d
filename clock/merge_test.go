package clock_test

import (
	"math/rand"
	"slices"
	"testing"

	"perigee/api"
	"perigee/clock"
)

// C4.
func TestMerged(t *testing.T) {
	for _, c := range []struct {
		name       string
		a, b, want []api.Mark
	}{
		{"one behind the other", oneTick(1, 2), oneTick(3, 4), oneTick(1, 2, 3, 4)},
		{"one before the other", oneTick(3, 4), oneTick(1, 2), oneTick(1, 2, 3, 4)},
		{"in turns", oneTick(1, 4, 5, 8), oneTick(2, 3, 6, 7), oneTick(1, 2, 3, 4, 5, 6, 7, 8)},
		{"equal ones once", oneTick(1, 2, 5, 6), oneTick(2, 3, 6), oneTick(1, 2, 3, 5, 6)},
		{"the same list", oneTick(1, 2), oneTick(1, 2), oneTick(1, 2)},
		{"with Off", []api.Mark{{Tick: 1, Time: 7, Off: 3}}, []api.Mark{{Tick: 0, Time: 5, Off: 9}}, []api.Mark{{Tick: 0, Time: 5, Off: 9}, {Tick: 1, Time: 7, Off: 3}}},
		{"many equal ones", manyMarks(api.MaxMarks), manyMarks(api.MaxMarks), manyMarks(api.MaxMarks)},
		{"just as many as there can be", manyMarks(api.MaxMarks - 1), manyMarks(api.MaxMarks)[api.MaxMarks-2:], manyMarks(api.MaxMarks)},
	} {
		got, f := clock.Merged(c.a, c.b)
		wantFault(t, c.name, f, api.OK)
		wantList(t, c.name, got, c.want)
	}
}

func TestMergedFaults(t *testing.T) {
	for _, c := range badMarks {
		if c.want == api.OK {
			continue
		}
		for _, other := range [][]api.Mark{oneTick(9), nil} {
			got, f := clock.Merged(c.m, other)
			wantFault(t, "a: "+c.name, f, c.want)
			wantList(t, "a: "+c.name, got, nil)
		}
		got, f := clock.Merged(oneTick(9), c.m)
		wantFault(t, "b: "+c.name, f, c.want)
		wantList(t, "b: "+c.name, got, nil)
	}
	for _, c := range []struct {
		name string
		a, b []api.Mark
		want api.Fault
	}{
		{"a before b", oneTick(2, 1), nil, api.ErrOrder},
		{"other Time", oneTick(1, 5), []api.Mark{{Tick: 5, Time: 6}}, api.ErrClash},
		{"other Off", oneTick(1, 5), []api.Mark{{Tick: 5, Time: 5, Off: 1}}, api.ErrClash},
		{"clash of the first ones", oneTick(5, 8), []api.Mark{{Tick: 5, Time: 4}}, api.ErrClash},
		{"same time at other ticks", oneTick(1, 5), []api.Mark{{Tick: 6, Time: 5}}, api.ErrOrder},
		{"time falls", oneTick(1, 5), []api.Mark{{Tick: 3, Time: 6}}, api.ErrOrder},
		{"clash before order", []api.Mark{{Tick: 1, Time: 10}, {Tick: 5, Time: 50}}, []api.Mark{{Tick: 3, Time: 5}, {Tick: 5, Time: 51}}, api.ErrClash},
		{"too many", manyMarks(api.MaxMarks), []api.Mark{{Tick: api.MaxTick, Time: api.MaxMoment}}, api.ErrLarge},
		{"clash before too many", manyMarks(api.MaxMarks), []api.Mark{{Tick: 3, Time: 2, Off: 7}, {Tick: api.MaxTick, Time: api.MaxMoment}}, api.ErrClash},
		{"too many before order", manyMarks(api.MaxMarks), []api.Mark{{Tick: 1, Time: 1000}}, api.ErrLarge},
	} {
		got, f := clock.Merged(c.a, c.b)
		wantFault(t, c.name, f, c.want)
		wantList(t, c.name, got, nil)
	}
}

// TestMergedOfParts: marks that are dealt out to two lists, some to both, come together again.
func TestMergedOfParts(t *testing.T) {
	r := rand.New(rand.NewSource(9))
	for range 300 {
		m := randomMarks(r, 1+r.Intn(30), 5, 9)
		a, b := []api.Mark{m[0]}, []api.Mark{m[0]}
		for _, x := range m[1:] {
			to := r.Intn(3)
			if to != 0 {
				a = append(a, x)
			}
			if to != 1 {
				b = append(b, x)
			}
		}
		got, f := clock.Merged(a, b)
		wantFault(t, "Merged", f, api.OK)
		wantList(t, "Merged", got, m)
	}
}

func TestThin(t *testing.T) {
	opposite := []api.Mark{{}, {Tick: 10, Time: 8}, {Tick: 11, Time: 13}, {Tick: 30, Time: 30}}
	// What the line says in the middle is 4.5, rounded 5.
	half := func(time int) []api.Mark { return []api.Mark{{}, {Tick: 1, Time: time}, {Tick: 2, Time: 9}} }
	for _, c := range []struct {
		name string
		m    []api.Mark
		most int
		stay []int
	}{
		{"one mark", oneTick(7), 0, []int{0}},
		{"two marks", oneTick(7, 9), api.MaxOff, []int{0, 1}},
		{"on a line", oneTick(1, 2, 5, 9), 0, []int{0, 3}},
		{"one that is off", []api.Mark{{}, {Tick: 2, Time: 2}, {Tick: 4, Time: 5}, {Tick: 6, Time: 6}}, 0, []int{0, 1, 2, 3}},
		{"one that is off, but not by more", []api.Mark{{}, {Tick: 2, Time: 2}, {Tick: 4, Time: 5}, {Tick: 6, Time: 6}}, 1, []int{0, 3}},
		{"from one that stays on", []api.Mark{{}, {Tick: 1, Time: 1}, {Tick: 2, Time: 2}, {Tick: 3, Time: 12}, {Tick: 4, Time: 22}}, 0, []int{0, 2, 4}},
		{"the farthest, not the last before one that is too far", opposite, 2, []int{0, 3}},
		{"too far after all", opposite, 1, []int{0, 1, 2, 3}},
		{"half way above is rounded up", half(5), 0, []int{0, 2}},
		{"half way below is one away", half(4), 0, []int{0, 1, 2}},
		{"half way below is just one away", half(4), 1, []int{0, 2}},
		{"half way above is one away", half(6), 0, []int{0, 1, 2}},
		{"half way above is just one away", half(6), 1, []int{0, 2}},
		{"half way, two away above", half(7), 2, []int{0, 2}},
		{"half way, three away above", half(8), 2, []int{0, 1, 2}},
		{"half way, three away below", half(2), 3, []int{0, 2}},
		{"half way, four away below", half(1), 3, []int{0, 1, 2}},
		{"all that can be left out", []api.Mark{{}, {Tick: 1, Time: 1000000}, {Tick: 2, Time: 1000001}, {Tick: 3, Time: 2000000}}, api.MaxOff, []int{0, 3}},
		{"greatest numbers", []api.Mark{{}, {Tick: 1, Time: api.MaxMoment - 2}, {Tick: api.MaxTick - 1, Time: api.MaxMoment - 1}, {Tick: api.MaxTick, Time: api.MaxMoment}}, 0, []int{0, 1, 2, 3}},
		{"greatest numbers, one away", []api.Mark{{}, {Tick: 1, Time: api.MaxMoment - 2}, {Tick: api.MaxTick - 1, Time: api.MaxMoment - 1}, {Tick: api.MaxTick, Time: api.MaxMoment}}, 1, []int{0, 1, 3}},
	} {
		var want []api.Mark
		for _, i := range c.stay {
			want = append(want, c.m[i])
		}
		got, f := clock.Thin(c.m, c.most)
		wantFault(t, c.name, f, api.OK)
		wantList(t, c.name, got, want)
	}
}

func TestThinFaults(t *testing.T) {
	for most, want := range map[int]api.Fault{-1: api.ErrRange, -1 << 63: api.ErrRange, 0: api.OK, api.MaxOff: api.OK, api.MaxOff + 1: api.ErrRange} {
		got, f := clock.Thin(oneTick(1, 2, 3), most)
		wantFault(t, "most", f, want)
		if f != api.OK {
			wantList(t, "most", got, nil)
		}
	}
}

// thinned is what the document's words leave of marks: each later one is tried.
func thinned(m []api.Mark, most int) []api.Mark {
	out := []api.Mark{m[0]}
	for i := 0; i < len(m)-1; {
		far := i + 1
		for j := i + 2; j < len(m); j++ {
			if !slices.ContainsFunc(m[i+1:j], func(x api.Mark) bool { return away(m[i], m[j], x) > most }) {
				far = j
			}
		}
		i = far
		out = append(out, m[i])
	}
	return out
}

// away is how far a mark is from the line through two others.
func away(a, b, x api.Mark) int {
	d := x.Time - int(exactly(a, b, x.Tick).Int64())
	return max(d, -d)
}

func TestThinLeavesTheFarthest(t *testing.T) {
	r := rand.New(rand.NewSource(10))
	left := 0
	for n := range 2000 {
		steep := []int{2, 4, 30, 10000000000}[n%4]
		m := randomMarks(r, 1+r.Intn(20), steep, 9)
		most := r.Intn(min(steep, api.MaxOff))
		got, f := clock.Thin(m, most)
		wantFault(t, "Thin", f, api.OK)
		wantList(t, "Thin", got, thinned(m, most))
		left += len(got)
		if len(got) < 2 {
			continue
		}
		for _, x := range m {
			time, f := clock.TimeOf(got, x.Tick)
			if f != api.OK || time > x.Time+most || time < x.Time-most {
				t.Errorf("TimeOf(%v, %d): %d is more than %d away from %d", got, x.Tick, time, most, x.Time)
			}
		}
	}
	if left < 4000 || left > 16000 {
		t.Errorf("%d marks stayed: they are no good test", left)
	}
}

func TestThinOfManyMarks(t *testing.T) {
	r := rand.New(rand.NewSource(11))
	got, f := clock.Thin(manyMarks(api.MaxMarks), 0)
	wantFault(t, "Thin", f, api.OK)
	wantList(t, "Thin", got, []api.Mark{{}, manyMarks(api.MaxMarks)[api.MaxMarks-1]})
	m := randomMarks(r, api.MaxMarks, 100, 0)
	got, f = clock.Thin(m, 0)
	wantFault(t, "Thin", f, api.OK)
	if len(got) < api.MaxMarks/2 {
		t.Errorf("%d of %d marks stayed", len(got), len(m))
	}
}
