package memory_test

import (
	"math"
	"math/rand"
	"slices"
	"testing"

	"perigee/api"
	"perigee/memory"
)

// M4.
func TestSlowest(t *testing.T) {
	good := bankOf(1, 2, 3)
	flips := []api.Flip{{At: 5, Place: 1, Bit: 3}, {At: 25, Place: 1, Bit: 5}}
	damaged := bankOf(1, 2, 3)
	damaged.Codes[2] = flip(damaged.Codes[2], 1, 2)
	wrong := bankOf(1, 2, 3)
	wrong.Saved[0] = 4
	for _, c := range []struct {
		name              string
		b                 api.Bank
		many              int
		flips             []api.Flip
		until, most, want int
	}{
		{"nothing flips", good, 1, nil, 100, 1000, 1000},
		{"nothing flips, most", good, 1, nil, 100, api.MaxMoment, api.MaxMoment},
		{"nothing flips, least", good, 1, nil, 100, 1, 1},
		{"between the flips", good, 3, flips, 40, 1000, 24},
		{"between the flips, most above until", good, 3, flips, 40, 41, 24},
		{"between the flips, most until", good, 3, flips, 40, 40, 24},
		{"between the flips, most below", good, 3, flips, 40, 23, 23},
		{"between the flips, most itself", good, 3, flips, 40, 24, 24},
		{"the second one is not there yet", good, 3, flips, 24, 1000, 1000},
		{"two rounds", good, 1, flips, 40, 1000, 12},
		{"the first one at the moment of a round", good, 3, []api.Flip{{At: 9, Place: 0, Bit: 3}, {At: 10, Place: 0, Bit: 5}}, 20, 20, 9},
		{"not each lesser Every does", good, 3, []api.Flip{{At: 9, Place: 0, Bit: 3}, {At: 10, Place: 0, Bit: 5}}, 20, 8, 3},
		{"no Every does", good, 3, []api.Flip{{At: 9, Place: 0, Bit: 3}, {At: 9, Place: 0, Bit: 5}}, 20, 1000, 0},
		{"at 0 alone", good, 3, []api.Flip{{At: 0, Place: 0, Bit: 3}, {At: 0, Place: 0, Bit: 5}}, 0, 1000, 0},
		{"until 0", good, 3, []api.Flip{{At: 0, Place: 0, Bit: 3}}, 0, 1000, 1000},
		{"damaged at first", damaged, 3, nil, 40, 1000, 0},
		{"damaged, mended by a flip", damaged, 3, []api.Flip{{At: 30, Place: 2, Bit: 1}}, 40, 1000, 1000},
		{"wrong at first", wrong, 3, nil, 40, 1000, 0},
		{"a bit that flips back", good, 3, []api.Flip{{At: 5, Place: 2, Bit: 3}, {At: 10, Place: 2, Bit: 5}, {At: 15, Place: 2, Bit: 3}}, 40, 1000, 1000},
		{"many more than words", good, 500, flips, 40, 1000, 24},
	} {
		every, is, f := memory.Slowest(c.b, api.Round{Many: c.many}, c.flips, c.until, c.most)
		wantFault(t, c.name, f, api.OK)
		wantSame(t, c.name, every, c.want)
		wantSame(t, c.name, is, c.want > 0)
	}
}

// TestSlowestIsTheGreatest compares with Lost and Wrong for each Every.
func TestSlowestIsTheGreatest(t *testing.T) {
	r := rand.New(rand.NewSource(5))
	found := 0
	for n := range 600 {
		b := manyWords(1 + r.Intn(6))
		if n%10 == 0 {
			b = randomBank(r, 6)
		}
		until := r.Intn(60)
		l := randomFlips(r, len(b.Codes), 10, 70)
		round := api.Round{Every: r.Intn(3) - 1, Many: 1 + r.Intn(8)}
		most := 1 + r.Intn(80)
		want := most
		for ; want > 0; want-- {
			same := api.Round{Every: want, Many: round.Many}
			lost, f := memory.Lost(b, same, l, until)
			wantFault(t, "Lost", f, api.OK)
			wrong, f := memory.Wrong(b, same, l, until)
			wantFault(t, "Wrong", f, api.OK)
			if len(lost)+len(wrong) == 0 {
				break
			}
		}
		every, is, f := memory.Slowest(b, round, l, until, most)
		wantFault(t, "Slowest", f, api.OK)
		wantSame(t, "Slowest", every, want)
		wantSame(t, "Slowest", is, want > 0)
		if is && every < min(most, until) {
			found++
		}
	}
	if found < 50 {
		t.Errorf("only %d had to be looked for", found)
	}
}

func TestSlowestFaults(t *testing.T) {
	b := bankOf(1, 2)
	for _, c := range []struct {
		name        string
		many        int
		until, most int
		want        api.Fault
	}{
		{"Many below", 0, 5, 5, api.ErrRange},
		{"Many far below", math.MinInt, 5, 5, api.ErrRange},
		{"Many above", api.MaxScrub + 1, 1, 5, api.ErrRange},
		{"Many above before too large", api.MaxScrub + 1, 5, 5, api.ErrRange},
		{"Many far above", math.MaxInt, 5, 5, api.ErrRange},
		{"until below", 1, -1, 5, api.ErrRange},
		{"until far below", 1, math.MinInt, 5, api.ErrRange},
		{"until above before too large", 1, api.MaxMoment + 1, 5, api.ErrRange},
		{"until far above", 1, math.MaxInt, 5, api.ErrRange},
		{"too large", 1, api.MaxSearch + 1, 5, api.ErrLarge},
		{"far too large", api.MaxScrub, api.MaxMoment, 5, api.ErrLarge},
		{"too large by Many", 401, 50, 5, api.ErrLarge},
		{"too large before most", 1, api.MaxSearch + 1, 0, api.ErrLarge},
		{"most below", 1, 5, 0, api.ErrRange},
		{"most far below", 1, 5, math.MinInt, api.ErrRange},
		{"most above", 1, 5, api.MaxMoment + 1, api.ErrRange},
		{"most far above", 1, 5, math.MaxInt, api.ErrRange},
		{"much", 1, api.MaxSearch, 5, api.OK},
		{"much by Many", 400, 50, 5, api.OK},
		{"as many as there can be", api.MaxScrub, 4, 5, api.OK},
		{"greatest", 1, 5, api.MaxMoment, api.OK},
	} {
		for _, every := range []int{0, -1, 1, api.MaxMoment + 1} {
			n, is, f := memory.Slowest(b, api.Round{Every: every, Many: c.many}, nil, c.until, c.most)
			wantFault(t, c.name, f, c.want)
			wantSame(t, c.name, is, c.want == api.OK)
			if f != api.OK {
				wantSame(t, c.name, n, 0)
			}
		}
	}
}

// TestSlowestOfMuch: as many words, flips and moments as there can be, such that no Every does.
func TestSlowestOfMuch(t *testing.T) {
	b := manyWords(api.MaxWords)
	l := slices.Repeat([]api.Flip{{At: api.MaxSearch, Place: api.MaxWords - 1, Bit: 3}}, api.MaxFlips-1)
	l = append(l, api.Flip{At: api.MaxSearch, Place: api.MaxWords - 1, Bit: 5})
	every, is, f := memory.Slowest(b, api.Round{Many: 1}, l, api.MaxSearch, api.MaxMoment)
	wantFault(t, "Slowest", f, api.OK)
	wantSame(t, "Slowest", every, 0)
	wantSame(t, "Slowest", is, false)
}
