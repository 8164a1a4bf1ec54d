package memory_test

import (
	"math"
	"math/rand"
	"slices"
	"testing"

	"perigee/api"
	"perigee/memory"
)

// M3.
func TestScrubbed(t *testing.T) {
	right, one, two := codeOf(9), flip(codeOf(9), 7), flip(codeOf(9), 7, 8)
	last := flip(codeOf(9), 22)
	done := func(place, kind, bit int) api.Scrub { return api.Scrub{Place: place, Kind: kind, Bit: bit} }
	for _, c := range []struct {
		name       string
		codes      []int
		from, many int
		want       []int
		done       []api.Scrub
	}{
		{"nothing", []int{one, two}, 1, 0, []int{one, two}, nil},
		{"right ones", []int{right, right}, 0, 2, []int{right, right}, nil},
		{"one bit", []int{right, one, last}, 0, 3, []int{right, right, right}, []api.Scrub{done(1, api.WordOne, 7), done(2, api.WordOne, 22)}},
		{"two bits", []int{right, two}, 0, 2, []int{right, two}, []api.Scrub{done(1, api.WordTwo, 0)}},
		{"not so many", []int{one, one, one}, 0, 2, []int{right, right, one}, []api.Scrub{done(0, api.WordOne, 7), done(1, api.WordOne, 7)}},
		{"from a place on", []int{one, one, one}, 1, 1, []int{one, right, one}, []api.Scrub{done(1, api.WordOne, 7)}},
		{"around", []int{one, one, one}, 2, 2, []int{right, one, right}, []api.Scrub{done(2, api.WordOne, 7), done(0, api.WordOne, 7)}},
		{"twice around", []int{two, one}, 1, 4, []int{two, right}, []api.Scrub{done(1, api.WordOne, 7), done(0, api.WordTwo, 0), done(0, api.WordTwo, 0)}},
		{"three bits that look like one", []int{flip(codeOf(1), 1, 4, 16)}, 0, 2, []int{codeOf(1 + 1<<15)}, []api.Scrub{done(0, api.WordOne, 21)}},
		{"one place, most", []int{two}, 0, api.MaxScrub, []int{two}, slices.Repeat([]api.Scrub{done(0, api.WordTwo, 0)}, api.MaxScrub)},
	} {
		b := bankWith(c.codes...)
		b.Saved[0] = 77
		got, l, f := memory.Scrubbed(b, c.from, c.many)
		wantFault(t, c.name, f, api.OK)
		wantBank(t, c.name, got, api.Bank{Codes: c.want, Saved: b.Saved})
		wantList(t, c.name, l, c.done)
	}
}

func TestScrubbedFaults(t *testing.T) {
	b := bankOf(1, 2)
	for _, c := range []struct {
		name       string
		from, many int
		want       api.Fault
	}{
		{"place below", -1, 1, api.ErrNone},
		{"place above", 2, 1, api.ErrNone},
		{"far below", math.MinInt, 1, api.ErrNone},
		{"far above", math.MaxInt, 1, api.ErrNone},
		{"place before range", 2, -1, api.ErrNone},
		{"fewer", 1, -1, api.ErrRange},
		{"more", 1, api.MaxScrub + 1, api.ErrRange},
		{"far fewer", 0, math.MinInt, api.ErrRange},
		{"far more", 0, math.MaxInt, api.ErrRange},
	} {
		got, l, f := memory.Scrubbed(b, c.from, c.many)
		wantFault(t, c.name, f, c.want)
		wantBank(t, c.name, got, api.Bank{})
		wantList(t, c.name, l, nil)
	}
	wrongBanks(func(name string, b api.Bank, want api.Fault) {
		got, _, f := memory.Scrubbed(b, -1, -1)
		wantFault(t, name, f, want)
		wantBank(t, name, got, api.Bank{})
	})
}

// TestScrubbedDoesAsItIsTold compares with the document's words, code by code.
func TestScrubbedDoesAsItIsTold(t *testing.T) {
	r := rand.New(rand.NewSource(2))
	for range 500 {
		b := randomBank(r, 9)
		from, many := r.Intn(len(b.Codes)), r.Intn(20)
		codes := slices.Clone(b.Codes)
		var done []api.Scrub
		for i := range many {
			place := (from + i) % len(codes)
			kind, bit := kindOf(codes[place])
			if kind != api.WordRight {
				done = append(done, api.Scrub{Place: place, Kind: kind, Bit: bit})
			}
			if kind == api.WordOne {
				codes[place] = flip(codes[place], bit)
			}
		}
		got, l, f := memory.Scrubbed(b, from, many)
		wantFault(t, "Scrubbed", f, api.OK)
		wantBank(t, "Scrubbed", got, api.Bank{Codes: codes, Saved: b.Saved})
		wantList(t, "Scrubbed", l, done)
	}
}

func TestCheckFlips(t *testing.T) {
	for _, c := range badFlips {
		wantFault(t, c.name, memory.CheckFlips(bankOf(1, 2), c.l), c.want)
	}
	wrongBanks(func(name string, b api.Bank, want api.Fault) {
		wantFault(t, name, memory.CheckFlips(b, nil), want)
		wantFault(t, name, memory.CheckFlips(b, slices.Repeat([]api.Flip{{At: -1}}, api.MaxFlips+1)), want)
	})
}

// M4.
func TestRounds(t *testing.T) {
	right, bit3, bit5, both := codeOf(9), flip(codeOf(9), 3), flip(codeOf(9), 5), flip(codeOf(9), 3, 5)
	one := func(at, place, bit int) api.Scrub {
		return api.Scrub{At: at, Place: place, Kind: api.WordOne, Bit: bit}
	}
	two := func(at, place int) api.Scrub { return api.Scrub{At: at, Place: place, Kind: api.WordTwo} }
	flips := func(l ...int) []api.Flip {
		var out []api.Flip
		for i := 0; i < len(l); i += 3 {
			out = append(out, api.Flip{At: l[i], Place: l[i+1], Bit: l[i+2]})
		}
		return out
	}
	for _, c := range []struct {
		name        string
		every, many int
		flips       []api.Flip
		until       int
		want        []int
		done        []api.Scrub
	}{
		{"nothing", 10, 1, nil, 100, []int{right, right, right}, nil},
		{"no round yet", 10, 3, flips(0, 1, 3), 9, []int{right, bit3, right}, nil},
		{"no round at 0", 10, 3, flips(0, 1, 3), 0, []int{right, bit3, right}, nil},
		{"round at until", 10, 3, flips(0, 1, 3), 10, []int{right, right, right}, []api.Scrub{one(10, 1, 3)}},
		{"flip at the moment of a round", 10, 3, flips(10, 1, 3), 10, []int{right, right, right}, []api.Scrub{one(10, 1, 3)}},
		{"flip behind a round", 10, 3, flips(11, 1, 3), 11, []int{right, bit3, right}, nil},
		{"flip behind until", 10, 3, flips(11, 1, 3, 12, 2, 3), 11, []int{right, bit3, right}, nil},
		{"flip behind until, no round", 10, 3, flips(5, 1, 3), 4, []int{right, right, right}, nil},
		{"flips with a round between", 10, 3, flips(5, 1, 3, 15, 1, 5), 20, []int{right, right, right}, []api.Scrub{one(10, 1, 3), one(20, 1, 5)}},
		{"flips without a round between", 10, 3, flips(11, 1, 3, 15, 1, 5), 30, []int{right, both, right}, []api.Scrub{two(20, 1), two(30, 1)}},
		{"the same bit again", 10, 3, flips(1, 1, 3, 2, 1, 3), 10, []int{right, right, right}, nil},
		{"the same bit again, behind a round", 10, 3, flips(1, 1, 3, 12, 1, 3), 19, []int{right, bit3, right}, []api.Scrub{one(10, 1, 3)}},
		{"goes on where it ended", 10, 2, flips(0, 0, 3, 0, 1, 3, 0, 2, 3), 10, []int{right, right, bit3}, []api.Scrub{one(10, 0, 3), one(10, 1, 3)}},
		{"goes on around", 10, 2, flips(0, 2, 3, 15, 0, 5, 15, 1, 5), 20, []int{right, bit5, right}, []api.Scrub{one(20, 2, 3), one(20, 0, 5)}},
		{"ends in the middle", 10, 1, flips(0, 2, 3), 29, []int{right, right, bit3}, nil},
		{"more than all in a round", 10, 4, flips(5, 1, 3, 5, 1, 5, 5, 0, 3), 20, []int{right, both, right}, []api.Scrub{one(10, 0, 3), two(10, 1), two(20, 1), two(20, 1)}},
		{"more than all, twice one", 7, 5, flips(0, 0, 3, 0, 0, 5), 7, []int{both, right, right}, []api.Scrub{two(7, 0), two(7, 0)}},
		{"each moment", 1, 1, flips(0, 0, 3, 1, 1, 3, 3, 1, 5), 5, []int{right, right, right}, []api.Scrub{one(1, 0, 3), one(2, 1, 3), one(5, 1, 5)}},
		{"greatest", api.MaxMoment, 3, flips(0, 0, 3, api.MaxMoment, 2, 5), api.MaxMoment, []int{right, right, right}, []api.Scrub{one(api.MaxMoment, 0, 3), one(api.MaxMoment, 2, 5)}},
	} {
		b := bankOf(9, 9, 9)
		b.Saved[1] = 77
		r := api.Round{Every: c.every, Many: c.many}
		got, l, f := memory.Rounds(b, r, c.flips, c.until)
		wantFault(t, c.name, f, api.OK)
		wantBank(t, c.name, got, api.Bank{Codes: c.want, Saved: b.Saved})
		wantList(t, c.name, l, c.done)
		var want []int
		for i, code := range c.want {
			if code == both {
				want = append(want, i)
			}
		}
		places, f := memory.Lost(b, r, c.flips, c.until)
		wantFault(t, c.name, f, api.OK)
		wantList(t, c.name+", lost", places, want)
	}
}

func TestRoundsArePlayed(t *testing.T) {
	r := rand.New(rand.NewSource(3))
	for range 500 {
		b := randomBank(r, 9)
		until := r.Intn(60)
		l := randomFlips(r, len(b.Codes), 25, 70)
		round := api.Round{Every: 1 + r.Intn(25), Many: 1 + r.Intn(12)}
		wantB, want := played(t, b, round, l, until)
		got, done, f := memory.Rounds(b, round, l, until)
		wantFault(t, "Rounds", f, api.OK)
		wantBank(t, "Rounds", got, wantB)
		wantList(t, "Rounds", done, want)

		var lost, wrong []int
		for i := range wantB.Codes {
			w, _, f := memory.ReadAt(wantB, i)
			switch {
			case f == api.ErrDamaged:
				lost = append(lost, i)
			case w != b.Saved[i]:
				wrong = append(wrong, i)
			}
		}
		places, f := memory.Lost(b, round, l, until)
		wantFault(t, "Lost", f, api.OK)
		wantList(t, "Lost", places, lost)
		places, f = memory.Wrong(b, round, l, until)
		wantFault(t, "Wrong", f, api.OK)
		wantList(t, "Wrong", places, wrong)
	}
}

func TestLostAndWrong(t *testing.T) {
	b := api.Bank{
		Codes: []int{codeOf(5), flip(codeOf(5), 7), flip(codeOf(5), 1, 2), codeOf(6), flip(codeOf(6), 22), flip(codeOf(5), 1, 2, 3), flip(codeOf(5), 9, 10)},
		Saved: []int{5, 5, 5, 5, 5, 5, 6},
	}
	for _, c := range []struct {
		name        string
		flips       []api.Flip
		until       int
		lost, wrong []int
	}{
		{"at first", nil, 0, []int{2, 6}, []int{3, 4, 5}},
		{"behind rounds", nil, 100, []int{2, 6}, []int{3, 4, 5}},
		{"flips", []api.Flip{{At: 1, Place: 1, Bit: 8}, {At: 2, Place: 2, Bit: 1}}, 2, []int{1, 6}, []int{3, 4, 5}},
		{"flips behind until", []api.Flip{{At: 1, Place: 1, Bit: 8}, {At: 2, Place: 2, Bit: 1}}, 1, []int{1, 2, 6}, []int{3, 4, 5}},
	} {
		r := api.Round{Every: 10, Many: 7}
		places, f := memory.Lost(b, r, c.flips, c.until)
		wantFault(t, c.name, f, api.OK)
		wantList(t, c.name+", lost", places, c.lost)
		places, f = memory.Wrong(b, r, c.flips, c.until)
		wantFault(t, c.name, f, api.OK)
		wantList(t, c.name+", wrong", places, c.wrong)
	}
}

// TestNothingIsLost: if each code is gone through between any two flips of its bits nothing is lost, and nothing wrong.
func TestNothingIsLost(t *testing.T) {
	r := rand.New(rand.NewSource(4))
	for range 200 {
		b := manyWords(1 + r.Intn(20))
		round := api.Round{Every: 1 + r.Intn(10), Many: 1 + r.Intn(8)}
		whole := round.Every * ((len(b.Codes)+round.Many-1)/round.Many + 1)
		until := 20 * whole
		var l []api.Flip
		for place := range b.Codes {
			for at := r.Intn(whole); at <= until; at += whole + r.Intn(whole) {
				l = append(l, api.Flip{At: at, Place: place, Bit: 1 + r.Intn(22)})
			}
		}
		slices.SortFunc(l, func(a, b api.Flip) int { return a.At - b.At })
		lost, f := memory.Lost(b, round, l, until)
		wantFault(t, "Lost", f, api.OK)
		wantList(t, "Lost", lost, nil)
		wrong, f := memory.Wrong(b, round, l, until)
		wantFault(t, "Wrong", f, api.OK)
		wantList(t, "Wrong", wrong, nil)
	}
}

func TestRoundsFaults(t *testing.T) {
	b := bankOf(1, 2)
	good := api.Round{Every: 1, Many: 1}
	type round = api.Round
	wrongFlips := []api.Flip{{Bit: 0}}
	for _, c := range []struct {
		name  string
		r     api.Round
		l     []api.Flip
		until int
		want  api.Fault
	}{
		{"flips before Every", round{}, []api.Flip{{Place: 2}}, -1, api.ErrNone},
		{"flips alone", good, wrongFlips, 5, api.ErrRange},
		{"Every below", round{Every: 0, Many: 1}, nil, 5, api.ErrRange},
		{"Every far below", round{Every: math.MinInt, Many: 1}, nil, 5, api.ErrRange},
		{"Every above", round{Every: api.MaxMoment + 1, Many: 1}, nil, 5, api.ErrRange},
		{"Every far above", round{Every: math.MaxInt, Many: 1}, nil, 5, api.ErrRange},
		{"Many below", round{Every: 1, Many: 0}, nil, 5, api.ErrRange},
		{"Many far below", round{Every: 1, Many: math.MinInt}, nil, 5, api.ErrRange},
		{"Many above", round{Every: 1, Many: api.MaxScrub + 1}, nil, 5, api.ErrRange},
		{"Many above before too large", round{Every: 1, Many: api.MaxScrub + 1}, nil, 5000, api.ErrRange},
		{"Many far above", round{Every: 1, Many: math.MaxInt}, nil, 5, api.ErrRange},
		{"until below", good, nil, -1, api.ErrRange},
		{"until far below", good, nil, math.MinInt, api.ErrRange},
		{"until above before too large", good, nil, api.MaxMoment + 1, api.ErrRange},
		{"until above, not too large", round{Every: api.MaxMoment, Many: 1}, nil, api.MaxMoment + 1, api.ErrRange},
		{"until far above", good, nil, math.MaxInt, api.ErrRange},
		{"too large", good, nil, api.MaxWork + 1, api.ErrLarge},
		{"far too large", round{Every: 1, Many: api.MaxScrub}, nil, api.MaxMoment, api.ErrLarge},
		{"too large by Many", round{Every: 1000, Many: 501}, nil, 2000000, api.ErrLarge},
		{"not too large, by Many", round{Every: 1000, Many: 500}, nil, 2000999, api.OK},
		{"too large, just", round{Every: 1000, Many: 500}, nil, 2001000, api.ErrLarge},
		{"most", good, nil, api.MaxWork, api.OK},
		{"most by Many", round{Every: api.MaxMoment / 200, Many: api.MaxScrub}, nil, api.MaxMoment, api.OK},
	} {
		got, l, f := memory.Rounds(b, c.r, c.l, c.until)
		wantFault(t, c.name, f, c.want)
		if f != api.OK {
			wantBank(t, c.name, got, api.Bank{})
			wantList(t, c.name, l, nil)
		}
		places, f := memory.Lost(b, c.r, c.l, c.until)
		wantFault(t, c.name+", lost", f, c.want)
		wantList(t, c.name+", lost", places, nil)
		places, f = memory.Wrong(b, c.r, c.l, c.until)
		wantFault(t, c.name+", wrong", f, c.want)
		wantList(t, c.name+", wrong", places, nil)
	}
	check := func(name string, b api.Bank, l []api.Flip, r api.Round, want api.Fault) {
		_, _, f := memory.Rounds(b, r, l, -1)
		wantFault(t, name, f, want)
		_, f = memory.Lost(b, r, l, -1)
		wantFault(t, name+", lost", f, want)
		_, f = memory.Wrong(b, r, l, -1)
		wantFault(t, name+", wrong", f, want)
		_, _, f = memory.Slowest(b, r, l, -1, 0)
		wantFault(t, name+", slowest", f, want)
	}
	wrongBanks(func(name string, b api.Bank, want api.Fault) { check(name, b, wrongFlips, round{}, want) })
	for _, c := range badFlips {
		if c.want != api.OK {
			check(c.name, b, c.l, round{}, c.want)
		}
	}
}
