package memory_test

import (
	"math"
	"slices"
	"testing"

	"perigee/api"
	"perigee/memory"
)

// TestNothingPanics (R1): each function returns for all arguments.
func TestNothingPanics(t *testing.T) {
	numbers := []int{math.MinInt, -1, 0, 1, 2, 22, 23, api.MaxScrub, api.MaxWord, api.MaxCode, api.MaxMoment, api.MaxMoment + 1, math.MaxInt}
	texts := []string{"", "\n", "1 2", "9223372036854775808 0\n", "\xff\xff 1\n", "1 1\n1 1\n"}
	good := bankOf(1, 2, 3)
	for _, a := range numbers {
		for _, b := range numbers {
			banks := []api.Bank{
				{},
				good,
				{Codes: []int{a, b}, Saved: []int{b, a}},
				{Codes: []int{a}, Saved: []int{b}},
				{Codes: []int{1, 2}, Saved: []int{a}},
			}
			flips := []api.Flip{{At: 1, Place: 1, Bit: 1}, {At: a, Place: b, Bit: a}, {At: b, Place: a, Bit: b}}
			for _, x := range banks {
				memory.CheckBank(x)
				memory.CheckFlips(x, flips)
				memory.Written(x, a, b)
				memory.ReadAt(x, a)
				memory.Flipped(x, a, b)
				memory.Scrubbed(x, a, b)
				memory.Scrubbed(x, 0, b)
				for _, l := range [][]api.Flip{nil, flips} {
					for _, r := range []api.Round{{Every: a, Many: b}, {Every: 1, Many: a}, {Every: a, Many: 1}} {
						memory.Rounds(x, r, l, b)
						memory.Lost(x, r, l, b)
						memory.Wrong(x, r, l, b)
						memory.Slowest(x, r, l, b, a)
					}
				}
				memory.Voted(x, good, good)
				memory.Voted(good, x, good)
				memory.Voted(good, good, x)
				memory.Text(x)
			}
		}
		memory.Coded(a)
		memory.Decoded(a)
		memory.Kind(a)
	}
	for _, text := range texts {
		memory.ReadText(text)
	}
}

// spare returns a slice with the same elements and spare capacity, and a function that says whether all of it is as it was.
func spare[E comparable](l []E) ([]E, func() bool) {
	all := append(slices.Clone(l), l...)
	was := slices.Clone(all)
	return all[:len(l)], func() bool { return slices.Equal(all, was) }
}

// TestArgumentsStayAsTheyAre (R2), their spare capacity too, also if the results are changed.
func TestArgumentsStayAsTheyAre(t *testing.T) {
	codes, codesAre := spare([]int{codeOf(1), flip(codeOf(2), 3), flip(codeOf(3), 3, 5)})
	saved, savedAre := spare([]int{1, 2, 3})
	flips, flipsAre := spare([]api.Flip{{At: 1, Place: 0, Bit: 4}, {At: 2, Place: 1, Bit: 5}, {At: 30, Place: 2, Bit: 6}})
	b := api.Bank{Codes: codes, Saved: saved}
	round := api.Round{Every: 5, Many: 2}
	change := func(b api.Bank, f api.Fault) {
		wantFault(t, "bank", f, api.OK)
		b.Codes, b.Saved = append(b.Codes, 99), append(b.Saved, 98)
		for i := range b.Codes {
			b.Codes[i] = 77
		}
		if slices.Contains(b.Saved, 77) {
			t.Error("Codes and Saved share memory")
		}
		for i := range b.Saved {
			b.Saved[i] = 76
		}
	}
	change(memory.Written(b, 1, 5))
	change(memory.Flipped(b, 1, 5))
	x, done, f := memory.Scrubbed(b, 1, 5)
	change(x, f)
	done[0].At = 77
	x, _, f = memory.Scrubbed(b, 1, 0)
	change(x, f)
	x, done, f = memory.Rounds(b, round, flips, 20)
	change(x, f)
	done[0].At = 77
	x, _, f = memory.Rounds(b, round, nil, 0)
	change(x, f)
	x, _, f = memory.Voted(b, b, b)
	change(x, f)
	memory.ReadAt(b, 1)
	memory.Lost(b, round, flips, 20)
	memory.Wrong(b, round, flips, 20)
	memory.Slowest(b, round, flips, 20, 30)
	memory.Text(b)
	if !codesAre() || !savedAre() || !flipsAre() {
		t.Error("an argument was changed")
	}
}

// TestBanksMayShareMemory: Codes and Saved of an argument can be one list.
func TestBanksMayShareMemory(t *testing.T) {
	l := []int{1, 2, 3}
	b := api.Bank{Codes: l, Saved: l}
	got, f := memory.Written(b, 1, 7)
	wantFault(t, "Written", f, api.OK)
	wantBank(t, "Written", got, api.Bank{Codes: []int{1, codeOf(7), 3}, Saved: []int{1, 7, 3}})
	wantList(t, "Written", l, []int{1, 2, 3})
}

// TestResultsAreAlwaysTheSame (R4): nothing is kept from call to call.
func TestResultsAreAlwaysTheSame(t *testing.T) {
	b := bankOf(1, 2, 3)
	l := []api.Flip{{At: 5, Place: 2, Bit: 3}, {At: 25, Place: 2, Bit: 5}}
	round := api.Round{Every: 10, Many: 1}
	first, done, f := memory.Rounds(b, round, l, 50)
	wantFault(t, "Rounds", f, api.OK)
	memory.Rounds(b, api.Round{Every: 3, Many: 2}, l[:1], 40)
	memory.Slowest(b, round, l, 40, 50)
	again, doneAgain, f := memory.Rounds(b, round, l, 50)
	wantFault(t, "Rounds", f, api.OK)
	wantBank(t, "Rounds", again, first)
	wantList(t, "Rounds", doneAgain, done)
}
