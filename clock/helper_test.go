package clock_test

import (
	"math/big"
	"math/rand"
	"reflect"
	"slices"
	"testing"

	"perigee/api"
)

func wantFault(t *testing.T, name string, got, want api.Fault) {
	t.Helper()
	if got != want {
		t.Errorf("%s: fault %d, want %d", name, got, want)
	}
}

func wantSame(t *testing.T, name string, got, want any) {
	t.Helper()
	if !reflect.DeepEqual(got, want) {
		t.Errorf("%s: got %v, want %v", name, got, want)
	}
}

// wantList accepts nil and empty lists alike.
func wantList[E comparable](t *testing.T, name string, got, want []E) {
	t.Helper()
	if !slices.Equal(got, want) {
		t.Errorf("%s: got %v, want %v", name, got, want)
	}
}

// oneTick is a mark for each number: ticks and times go up together, and nothing is off.
func oneTick(numbers ...int) []api.Mark {
	var m []api.Mark
	for _, n := range numbers {
		m = append(m, api.Mark{Tick: n, Time: n})
	}
	return m
}

// manyMarks returns so many right marks.
func manyMarks(many int) []api.Mark {
	var m []api.Mark
	for n := range many {
		m = append(m, api.Mark{Tick: 3 * n, Time: 2 * n, Off: n % 5})
	}
	return m
}

// randomMarks returns marks whose ticks and times go up by 1 to steep each.
func randomMarks(r *rand.Rand, many, steep, off int) []api.Mark {
	var m []api.Mark
	tick, time := r.Intn(steep), r.Intn(steep)
	for range many {
		m = append(m, api.Mark{Tick: tick, Time: time, Off: r.Intn(off + 1)})
		tick += 1 + r.Intn(steep)
		time += 1 + r.Intn(steep)
	}
	return m
}

// exactly is what the line through two marks says at a tick, rounded, by numbers without a limit.
func exactly(a, b api.Mark, tick int) *big.Int {
	part := func(n int) *big.Int { return big.NewInt(int64(n)) }
	run := part(b.Tick - a.Tick)
	// Floor of (2 Time run + 2 d rise + run) / (2 run).
	n := new(big.Int).Mul(part(tick-a.Tick), part(b.Time-a.Time))
	n.Add(n, new(big.Int).Mul(part(a.Time), run))
	n.Mul(n, part(2))
	n.Add(n, run)
	return n.Div(n, run.Mul(run, part(2)))
}

// exactTime is the time that the document's words give a tick, whether it is one or not.
func exactTime(m []api.Mark, tick int) *big.Int {
	k := 0
	for k+2 < len(m) && m[k+1].Tick <= tick {
		k++
	}
	return exactly(m[k], m[k+1], tick)
}

func isTime(n *big.Int) bool {
	return n.Sign() >= 0 && n.Cmp(big.NewInt(api.MaxMoment)) <= 0
}

// badMarks are marks with their fault, and right ones at the bounds.
var badMarks = []struct {
	name string
	m    []api.Mark
	want api.Fault
}{
	{"nil", nil, api.ErrNone},
	{"empty", []api.Mark{}, api.ErrNone},
	{"one too many", manyMarks(api.MaxMarks + 1), api.ErrLarge},
	{"too many before the first one's range", append(oneTick(-1), manyMarks(api.MaxMarks)...), api.ErrLarge},
	{"tick below", []api.Mark{{Tick: -1}}, api.ErrRange},
	{"tick above", []api.Mark{{Tick: api.MaxTick + 1}}, api.ErrRange},
	{"time below", []api.Mark{{Time: -1}}, api.ErrRange},
	{"time above", []api.Mark{{Time: api.MaxMoment + 1}}, api.ErrRange},
	{"off below", []api.Mark{{Off: -1}}, api.ErrRange},
	{"off above", []api.Mark{{Off: api.MaxOff + 1}}, api.ErrRange},
	{"range of the last one", append(oneTick(1, 2, 3), api.Mark{Tick: 4, Time: 4, Off: -1}), api.ErrRange},
	{"same tick", []api.Mark{{Tick: 5, Time: 5}, {Tick: 5, Time: 6}}, api.ErrOrder},
	{"lesser tick", []api.Mark{{Tick: 5, Time: 5}, {Tick: 4, Time: 6}}, api.ErrOrder},
	{"same time", []api.Mark{{Tick: 5, Time: 5}, {Tick: 6, Time: 5}}, api.ErrOrder},
	{"lesser time", []api.Mark{{Tick: 5, Time: 5}, {Tick: 6, Time: 4}}, api.ErrOrder},
	{"the same twice", oneTick(5, 5), api.ErrOrder},
	{"order of the last one", oneTick(1, 2, 4, 3), api.ErrOrder},
	{"order before the next one's range", append(oneTick(5, 4), api.Mark{Tick: -1}), api.ErrOrder},
	{"range before its own order", []api.Mark{{Tick: 5, Time: 5}, {Tick: 4, Time: 6, Off: api.MaxOff + 1}}, api.ErrRange},
	{"least", []api.Mark{{}}, api.OK},
	{"greatest", []api.Mark{{Off: api.MaxOff}, {Tick: api.MaxTick, Time: api.MaxMoment, Off: api.MaxOff}}, api.OK},
	{"most", manyMarks(api.MaxMarks), api.OK},
}
