package clock_test

import (
	"math/rand"
	"testing"

	"perigee/api"
	"perigee/clock"
)

// C1.
func TestUnrolled(t *testing.T) {
	for _, c := range []struct {
		name string
		raw  []int
		bits int
		want []int
	}{
		{"nothing", nil, 4, nil},
		{"empty", []int{}, 40, nil},
		{"the chapter's example", []int{14, 3}, 4, []int{14, 19}},
		{"first one is itself", []int{15}, 4, []int{15}},
		{"the same again is the same tick", []int{7, 7, 7}, 4, []int{7, 7, 7}},
		{"one less is nearly a round later", []int{7, 6}, 4, []int{7, 22}},
		{"around, and around again", []int{15, 0, 15, 0, 1}, 4, []int{15, 16, 31, 32, 33}},
		{"from nothing on", []int{0, 0, 15}, 4, []int{0, 0, 15}},
		{"eight bits", []int{200, 100, 255, 0}, 8, []int{200, 356, 511, 512}},
		{"forty bits", []int{999999999999, 1000000000000, 1000000000000}, 40, []int{999999999999, 1000000000000, 1000000000000}},
		{"39 bits around", []int{549755813887, 0}, 39, []int{549755813887, 549755813888}},
	} {
		got, f := clock.Unrolled(c.raw, c.bits)
		wantFault(t, c.name, f, api.OK)
		wantList(t, c.name, got, c.want)
	}
}

func TestRolled(t *testing.T) {
	for _, c := range []struct {
		name  string
		ticks []int
		bits  int
		want  []int
	}{
		{"nothing", nil, 4, nil},
		{"empty", []int{}, 40, nil},
		{"the chapter's example", []int{14, 19}, 4, []int{14, 3}},
		{"the same twice", []int{20, 20}, 4, []int{4, 4}},
		{"more than a round behind", []int{1, 100, 1000}, 5, []int{1, 4, 8}},
		{"bounds", []int{0, api.MaxTick}, 40, []int{0, api.MaxTick}},
		{"bounds in few bits", []int{0, api.MaxTick}, 4, []int{0, 0}},
		{"39 bits", []int{549755813887, 549755813888}, 39, []int{549755813887, 0}},
	} {
		got, f := clock.Rolled(c.ticks, c.bits)
		wantFault(t, c.name, f, api.OK)
		wantList(t, c.name, got, c.want)
	}
}

func TestCounterFaults(t *testing.T) {
	long := make([]int, api.MaxReads+1)
	for _, c := range []struct {
		name             string
		l                []int
		bits             int
		unrolled, rolled api.Fault
	}{
		{"bits below", []int{1}, 3, api.ErrRange, api.ErrRange},
		{"bits above", []int{1}, 41, api.ErrRange, api.ErrRange},
		{"no bits", nil, 0, api.ErrRange, api.ErrRange},
		{"bits below 0", []int{1}, -1, api.ErrRange, api.ErrRange},
		{"bits before how many", long, 3, api.ErrRange, api.ErrRange},
		{"as many as there can be", long[1:], 4, api.OK, api.OK},
		{"too many", long, 4, api.ErrLarge, api.ErrLarge},
		{"too many before the first one", append([]int{-1}, long...), 4, api.ErrLarge, api.ErrLarge},
		{"below", []int{-1}, 4, api.ErrRange, api.ErrRange},
		{"far below", []int{-1 << 63}, 4, api.ErrRange, api.ErrRange},
		{"below, later", []int{1, -1}, 4, api.ErrRange, api.ErrRange},
		{"greatest reading", []int{15}, 4, api.OK, api.OK},
		{"reading above, but a tick", []int{16}, 4, api.ErrRange, api.OK},
		{"reading above, later", []int{1, 16}, 4, api.ErrRange, api.OK},
		{"reading of forty bits that is no tick", []int{api.MaxTick + 1}, 40, api.ErrRange, api.ErrRange},
		{"no tick, later", []int{1, api.MaxTick + 1}, 4, api.ErrRange, api.ErrRange},
		{"falls", []int{5, 4}, 4, api.OK, api.ErrOrder},
		{"falls, later", []int{5, 5, 6, 5}, 4, api.OK, api.ErrOrder},
		{"falls before what is out of range", []int{5, 4, -1}, 4, api.ErrRange, api.ErrOrder},
		{"falls out of range", []int{5, -1}, 4, api.ErrRange, api.ErrRange},
		{"around to a tick above", []int{549755813888, 0}, 40, api.ErrRange, api.ErrOrder},
		{"a tick above, told first", []int{1<<39 - 1, 1<<39 - 2, 1<<39 - 2}, 39, api.ErrRange, api.ErrOrder},
	} {
		got, f := clock.Unrolled(c.l, c.bits)
		wantFault(t, "Unrolled: "+c.name, f, c.unrolled)
		if f != api.OK {
			wantList(t, "Unrolled: "+c.name, got, nil)
		}
		got, f = clock.Rolled(c.l, c.bits)
		wantFault(t, "Rolled: "+c.name, f, c.rolled)
		if f != api.OK {
			wantList(t, "Rolled: "+c.name, got, nil)
		}
	}
}

// TestUnrolledUpToTheGreatestTick: of 38 bits there are three rounds, and some ticks more.
func TestUnrolledUpToTheGreatestTick(t *testing.T) {
	const round = 1 << 38
	const rest = api.MaxTick - 3*round
	three := []int{3, 2, 1, 0}
	got, f := clock.Unrolled(append(three, rest), 38)
	wantFault(t, "the greatest", f, api.OK)
	wantList(t, "the greatest", got, []int{3, 2 + round, 1 + 2*round, 3 * round, api.MaxTick})
	got, f = clock.Unrolled(append(three, rest+1), 38)
	wantFault(t, "one above", f, api.ErrRange)
	wantList(t, "one above", got, nil)
	got, f = clock.Unrolled(append(three, rest, rest-1), 38)
	wantFault(t, "around once more", f, api.ErrRange)
	wantList(t, "around once more", got, nil)
}

func TestRolledAndUnrolledAgain(t *testing.T) {
	r := rand.New(rand.NewSource(1))
	for range 300 {
		bits := 4 + r.Intn(16)
		round := 1 << bits
		raw, ticks := []int{r.Intn(round)}, []int{r.Intn(5 * round)}
		for range r.Intn(40) {
			raw = append(raw, r.Intn(round))
			ticks = append(ticks, ticks[len(ticks)-1]+r.Intn(round))
		}
		unrolled, f := clock.Unrolled(raw, bits)
		wantFault(t, "Unrolled", f, api.OK)
		again, f := clock.Rolled(unrolled, bits)
		wantFault(t, "Rolled", f, api.OK)
		wantList(t, "Rolled of Unrolled", again, raw)

		rolled, f := clock.Rolled(ticks, bits)
		wantFault(t, "Rolled", f, api.OK)
		unrolled, f = clock.Unrolled(rolled, bits)
		wantFault(t, "Unrolled", f, api.OK)
		rounds := ticks[0] - ticks[0]%round
		for i := range unrolled {
			unrolled[i] += rounds
		}
		wantList(t, "Unrolled of Rolled", unrolled, ticks)
	}
}
