package memory_test

import (
	"math/rand"
	"reflect"
	"slices"
	"testing"

	"perigee/api"
	"perigee/memory"
)

func wantFault(t *testing.T, name string, got, want api.Fault) {
	t.Helper()
	if got != want {
		t.Errorf("%s: fault %d, want %d", name, got, want)
	}
}

func wantSame(t *testing.T, name string, got, want any) {
	t.Helper()
	if !reflect.DeepEqual(got, want) {
		t.Errorf("%s: got %v, want %v", name, got, want)
	}
}

// wantList accepts nil and empty lists alike.
func wantList[E comparable](t *testing.T, name string, got, want []E) {
	t.Helper()
	if !slices.Equal(got, want) {
		t.Errorf("%s: got %v, want %v", name, got, want)
	}
}

func wantBank(t *testing.T, name string, got, want api.Bank) {
	t.Helper()
	wantList(t, name+", codes", got.Codes, want.Codes)
	wantList(t, name+", saved", got.Saved, want.Saved)
}

// wordBits are the numbers of the bits of a word.
var wordBits = []int{3, 5, 6, 7, 9, 10, 11, 12, 13, 14, 15, 17, 18, 19, 20, 21}

func has(c, bit int) bool { return c&(1<<(bit-1)) != 0 }

// isOdd says whether an odd number of those bits is set, up to 21, whose numbers have a power of two.
func isOdd(c, power int) bool {
	set := false
	for bit := 1; bit <= 21; bit++ {
		if bit&power != 0 && has(c, bit) {
			set = !set
		}
	}
	return set
}

// allOdd says whether an odd number of all bits is set.
func allOdd(c int) bool {
	set := false
	for bit := 1; bit <= 22; bit++ {
		if has(c, bit) {
			set = !set
		}
	}
	return set
}

// codeOf is the code of a word by the document's words.
func codeOf(w int) int {
	c := 0
	for i, bit := range wordBits {
		if w>>i&1 == 1 {
			c = flip(c, bit)
		}
	}
	for _, check := range []int{1, 2, 4, 8, 16} {
		if isOdd(c, check) {
			c = flip(c, check)
		}
	}
	if allOdd(c) {
		c = flip(c, 22)
	}
	return c
}

// kindOf is the kind of a code, and its bit, by the document's words.
func kindOf(c int) (int, int) {
	mark := 0
	for _, power := range []int{1, 2, 4, 8, 16} {
		if isOdd(c, power) {
			mark += power
		}
	}
	switch {
	case !allOdd(c) && mark == 0:
		return api.WordRight, 0
	case !allOdd(c) || mark > 21:
		return api.WordTwo, 0
	case mark == 0:
		return api.WordOne, 22
	}
	return api.WordOne, mark
}

// flip flips bits of a code.
func flip(c int, bits ...int) int {
	for _, bit := range bits {
		c ^= 1 << (bit - 1)
	}
	return c
}

// bankOf is a bank with words, all as they were saved.
func bankOf(words ...int) api.Bank {
	var b api.Bank
	for _, w := range words {
		b.Codes = append(b.Codes, codeOf(w))
		b.Saved = append(b.Saved, w)
	}
	return b
}

// bankWith is a bank with codes, and 0 saved at each place.
func bankWith(codes ...int) api.Bank {
	return api.Bank{Codes: codes, Saved: make([]int, len(codes))}
}

// manyWords is a bank with so many words.
func manyWords(many int) api.Bank {
	words := make([]int, many)
	for i := range words {
		words[i] = 31 * i % 65536
	}
	return bankOf(words...)
}

// randomBank is a bank with up to most words, some with flipped bits, some not those that were saved.
func randomBank(r *rand.Rand, most int) api.Bank {
	var b api.Bank
	for range 1 + r.Intn(most) {
		w := r.Intn(65536)
		c := codeOf(w)
		for range r.Intn(9) / 6 {
			c = flip(c, 1+r.Intn(22))
		}
		if r.Intn(40) == 0 {
			c = flip(c, 1+r.Intn(22), 1+r.Intn(22))
		}
		if r.Intn(40) == 0 {
			w = r.Intn(65536)
		}
		b.Codes = append(b.Codes, c)
		b.Saved = append(b.Saved, w)
	}
	return b
}

// randomFlips are up to most flips in a bank with so many places, up to a moment.
func randomFlips(r *rand.Rand, places, most, until int) []api.Flip {
	var l []api.Flip
	for range r.Intn(most + 1) {
		l = append(l, api.Flip{At: r.Intn(until + 1), Place: r.Intn(places), Bit: 1 + r.Intn(22)})
	}
	slices.SortStableFunc(l, func(a, b api.Flip) int { return a.At - b.At })
	return l
}

// played plays flips and rounds moment by moment, with Flipped and Scrubbed alone.
func played(t *testing.T, b api.Bank, r api.Round, l []api.Flip, until int) (api.Bank, []api.Scrub) {
	t.Helper()
	var done []api.Scrub
	from := 0
	for at := range until + 1 {
		for _, x := range l {
			if x.At != at {
				continue
			}
			var f api.Fault
			b, f = memory.Flipped(b, x.Place, x.Bit)
			wantFault(t, "Flipped", f, api.OK)
		}
		if at == 0 || at%r.Every != 0 {
			continue
		}
		out, some, f := memory.Scrubbed(b, from, r.Many)
		wantFault(t, "Scrubbed", f, api.OK)
		for _, x := range some {
			x.At = at
			done = append(done, x)
		}
		b = out
		from = (from + r.Many) % len(b.Codes)
	}
	return b, done
}

// badBanks are banks with their fault, and right ones at the bounds.
var badBanks = []struct {
	name string
	b    api.Bank
	want api.Fault
}{
	{"nothing", api.Bank{}, api.ErrNone},
	{"empty", api.Bank{Codes: []int{}, Saved: []int{}}, api.ErrNone},
	{"no codes before form", api.Bank{Saved: []int{1}}, api.ErrNone},
	{"one too many", bankWith(make([]int, api.MaxWords+1)...), api.ErrLarge},
	{"too many before form", api.Bank{Codes: make([]int, api.MaxWords+1)}, api.ErrLarge},
	{"too many before range", bankWith(append(make([]int, api.MaxWords), -1)...), api.ErrLarge},
	{"nothing saved", api.Bank{Codes: []int{0}}, api.ErrForm},
	{"fewer saved", api.Bank{Codes: []int{0, 0}, Saved: []int{0}}, api.ErrForm},
	{"more saved", api.Bank{Codes: []int{0}, Saved: []int{0, 0}}, api.ErrForm},
	{"form before range", api.Bank{Codes: []int{-1}, Saved: []int{0, 0}}, api.ErrForm},
	{"code below", bankWith(-1), api.ErrRange},
	{"code above", bankWith(api.MaxCode + 1), api.ErrRange},
	{"range of the last code", bankWith(0, 0, api.MaxCode+1), api.ErrRange},
	{"saved below", api.Bank{Codes: []int{0}, Saved: []int{-1}}, api.ErrRange},
	{"saved above", api.Bank{Codes: []int{0}, Saved: []int{api.MaxWord + 1}}, api.ErrRange},
	{"range of the last one saved", api.Bank{Codes: []int{0, 0}, Saved: []int{0, api.MaxWord + 1}}, api.ErrRange},
	{"least", bankWith(0), api.OK},
	{"greatest", api.Bank{Codes: []int{0, api.MaxCode}, Saved: []int{api.MaxWord, 0}}, api.OK},
	{"most", manyWords(api.MaxWords), api.OK},
}

// wrongBanks gives each bank that has a fault to a test.
func wrongBanks(test func(name string, b api.Bank, want api.Fault)) {
	for _, c := range badBanks {
		if c.want != api.OK {
			test(c.name, c.b, c.want)
		}
	}
}

// badFlips are flips in a bank with two places, with their fault, and right ones at the bounds.
var badFlips = []struct {
	name string
	l    []api.Flip
	want api.Fault
}{
	{"nil", nil, api.OK},
	{"empty", []api.Flip{}, api.OK},
	{"most", slices.Repeat([]api.Flip{{Bit: 1}}, api.MaxFlips), api.OK},
	{"one too many", slices.Repeat([]api.Flip{{Bit: 1}}, api.MaxFlips+1), api.ErrLarge},
	{"too many before the first one", slices.Repeat([]api.Flip{{Place: -1}}, api.MaxFlips+1), api.ErrLarge},
	{"moment below", []api.Flip{{At: -1, Bit: 1}}, api.ErrRange},
	{"moment above", []api.Flip{{At: api.MaxMoment + 1, Bit: 1}}, api.ErrRange},
	{"moment before place", []api.Flip{{At: -1, Place: 2, Bit: 1}}, api.ErrRange},
	{"place below", []api.Flip{{Place: -1, Bit: 1}}, api.ErrNone},
	{"place above", []api.Flip{{Place: 2, Bit: 1}}, api.ErrNone},
	{"place before bit", []api.Flip{{Place: 2, Bit: 0}}, api.ErrNone},
	{"bit below", []api.Flip{{Bit: 0}}, api.ErrRange},
	{"bit above", []api.Flip{{Bit: 23}}, api.ErrRange},
	{"bit before order", []api.Flip{{At: 5, Bit: 1}, {At: 4, Bit: 23}}, api.ErrRange},
	{"place before order", []api.Flip{{At: 5, Bit: 1}, {At: 4, Place: 2, Bit: 1}}, api.ErrNone},
	{"order", []api.Flip{{At: 5, Bit: 1}, {At: 4, Bit: 1}}, api.ErrOrder},
	{"order, later", []api.Flip{{At: 3, Bit: 1}, {At: 5, Bit: 1}, {At: 5, Bit: 1}, {At: 4, Bit: 1}}, api.ErrOrder},
	{"order to the one just before", []api.Flip{{At: 3, Bit: 1}, {At: 9, Bit: 1}, {At: 5, Bit: 1}}, api.ErrOrder},
	{"order before the next one's place", []api.Flip{{At: 5, Bit: 1}, {At: 4, Bit: 1}, {At: 5, Place: 2, Bit: 1}}, api.ErrOrder},
	{"place before the next one's range", []api.Flip{{Place: 2, Bit: 1}, {At: -1}}, api.ErrNone},
	{"same moment, same bit", []api.Flip{{At: 5, Bit: 1}, {At: 5, Bit: 1}}, api.OK},
	{"bounds", []api.Flip{{Bit: 1}, {At: api.MaxMoment, Place: 1, Bit: 22}}, api.OK},
}
