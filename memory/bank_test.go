package memory_test

import (
	"math"
	"math/rand"
	"slices"
	"testing"

	"perigee/api"
	"perigee/memory"
)

// M2.
func TestCheckBank(t *testing.T) {
	for _, c := range badBanks {
		wantFault(t, c.name, memory.CheckBank(c.b), c.want)
	}
}

func TestWritten(t *testing.T) {
	b := bankOf(10, 20, 30)
	damaged := bankOf(10, 20, 30)
	damaged.Codes[1] = flip(damaged.Codes[1], 3, 5)
	for _, c := range []struct {
		name  string
		b     api.Bank
		at, w int
		want  api.Bank
	}{
		{"first", b, 0, 7, bankOf(7, 20, 30)},
		{"last", b, 2, 7, bankOf(10, 20, 7)},
		{"the same again", b, 1, 20, b},
		{"least", b, 1, 0, bankOf(10, 0, 30)},
		{"greatest", b, 1, api.MaxWord, bankOf(10, api.MaxWord, 30)},
		{"over what is damaged", damaged, 1, 20, b},
		{"beside what is damaged", damaged, 0, 9, api.Bank{Codes: []int{codeOf(9), damaged.Codes[1], codeOf(30)}, Saved: []int{9, 20, 30}}},
		{"over another one saved", bankWith(codeOf(5)), 0, 5, bankOf(5)},
	} {
		got, f := memory.Written(c.b, c.at, c.w)
		wantFault(t, c.name, f, api.OK)
		wantBank(t, c.name, got, c.want)
	}
}

func TestReadAt(t *testing.T) {
	b := api.Bank{
		Codes: []int{codeOf(5), flip(codeOf(6), 7), flip(codeOf(7), 22), flip(codeOf(8), 1, 2), codeOf(api.MaxWord)},
		Saved: []int{0, 0, 7, 8, 1},
	}
	for at, want := range [][]int{{5, 0}, {6, 1}, {7, 1}, {0, 0}, {api.MaxWord, 0}} {
		w, mended, f := memory.ReadAt(b, at)
		fault := api.OK
		if at == 3 {
			fault = api.ErrDamaged
		}
		wantFault(t, "ReadAt", f, fault)
		wantSame(t, "ReadAt", []int{w, mended}, want)
	}
}

func TestFlipped(t *testing.T) {
	b := api.Bank{Codes: []int{0, api.MaxCode, 5}, Saved: []int{3, 4, 5}}
	for _, c := range []struct {
		at, bit int
		want    []int
	}{
		{0, 1, []int{1, api.MaxCode, 5}},
		{0, 22, []int{1 << 21, api.MaxCode, 5}},
		{1, 1, []int{0, api.MaxCode - 1, 5}},
		{1, 22, []int{0, 1<<21 - 1, 5}},
		{2, 2, []int{0, api.MaxCode, 7}},
		{2, 3, []int{0, api.MaxCode, 1}},
	} {
		got, f := memory.Flipped(b, c.at, c.bit)
		wantFault(t, "Flipped", f, api.OK)
		wantBank(t, "Flipped", got, api.Bank{Codes: c.want, Saved: b.Saved})
		again, f := memory.Flipped(got, c.at, c.bit)
		wantFault(t, "Flipped again", f, api.OK)
		wantBank(t, "Flipped again", again, b)
	}
}

func TestPlaceFaults(t *testing.T) {
	b := bankOf(10, 20, 30)
	for _, c := range []struct {
		name                   string
		b                      api.Bank
		at, w, bit             int
		read, written, flipped api.Fault
	}{
		{"place below", b, -1, 1, 1, api.ErrNone, api.ErrNone, api.ErrNone},
		{"place above", b, 3, 1, 1, api.ErrNone, api.ErrNone, api.ErrNone},
		{"places far away", b, math.MinInt, 1, 1, api.ErrNone, api.ErrNone, api.ErrNone},
		{"places far behind", b, math.MaxInt, 1, 1, api.ErrNone, api.ErrNone, api.ErrNone},
		{"place before range", b, 3, -1, 0, api.ErrNone, api.ErrNone, api.ErrNone},
		{"below", b, 2, -1, 0, api.OK, api.ErrRange, api.ErrRange},
		{"above", b, 2, api.MaxWord + 1, 23, api.OK, api.ErrRange, api.ErrRange},
		{"far below", b, 0, math.MinInt, math.MinInt, api.OK, api.ErrRange, api.ErrRange},
		{"far above", b, 0, math.MaxInt, math.MaxInt, api.OK, api.ErrRange, api.ErrRange},
		{"damaged", bankWith(3), 0, 1, 1, api.ErrDamaged, api.OK, api.OK},
		{"place before damaged", bankWith(3), 1, 1, 1, api.ErrNone, api.ErrNone, api.ErrNone},
	} {
		word, mended, f := memory.ReadAt(c.b, c.at)
		wantFault(t, "ReadAt: "+c.name, f, c.read)
		if f != api.OK {
			wantSame(t, "ReadAt: "+c.name, []int{word, mended}, []int{0, 0})
		}
		got, f := memory.Written(c.b, c.at, c.w)
		wantFault(t, "Written: "+c.name, f, c.written)
		if f != api.OK {
			wantBank(t, "Written: "+c.name, got, api.Bank{})
		}
		got, f = memory.Flipped(c.b, c.at, c.bit)
		wantFault(t, "Flipped: "+c.name, f, c.flipped)
		if f != api.OK {
			wantBank(t, "Flipped: "+c.name, got, api.Bank{})
		}
	}
	wrongBanks(func(name string, b api.Bank, want api.Fault) {
		_, _, f := memory.ReadAt(b, -1)
		wantFault(t, "ReadAt: "+name, f, want)
		got, f := memory.Written(b, -1, -1)
		wantFault(t, "Written: "+name, f, want)
		wantBank(t, "Written: "+name, got, api.Bank{})
		got, f = memory.Flipped(b, -1, -1)
		wantFault(t, "Flipped: "+name, f, want)
		wantBank(t, "Flipped: "+name, got, api.Bank{})
	})
}

// M5.
func TestVoted(t *testing.T) {
	for _, c := range []struct {
		name    string
		a, b, c api.Bank
		want    []int
		places  []int
	}{
		{"all the same", bankOf(1, 2), bankOf(1, 2), bankOf(1, 2), []int{codeOf(1), codeOf(2)}, nil},
		{"a alone", bankWith(5, 6, 7), bankWith(5, 9, 7), bankWith(5, 9, 7), []int{5, 9, 7}, []int{1}},
		{"b alone", bankWith(5, 6, 7), bankWith(8, 6, 7), bankWith(5, 6, 7), []int{5, 6, 7}, []int{0}},
		{"c alone", bankWith(5, 6, 7), bankWith(5, 6, 7), bankWith(5, 6, 0), []int{5, 6, 7}, []int{2}},
		{"bit by bit", bankWith(0b11110000), bankWith(0b11001100), bankWith(0b10101010), []int{0b11101000}, []int{0}},
		{"each one alone", bankWith(4, 0, 0, 9), bankWith(0, 4, 0, 9), bankWith(0, 0, 4, 9), []int{0, 0, 0, 9}, []int{0, 1, 2}},
		{"bounds", bankWith(api.MaxCode), bankWith(0), bankWith(api.MaxCode), []int{api.MaxCode}, []int{0}},
	} {
		got, places, f := memory.Voted(c.a, c.b, c.c)
		wantFault(t, c.name, f, api.OK)
		wantBank(t, c.name, got, api.Bank{Codes: c.want, Saved: c.a.Saved})
		wantList(t, c.name, places, c.places)
	}
	a, b, c := bankOf(1, 2), bankOf(1, 2), bankOf(1, 2)
	a.Saved, b.Saved, c.Saved = []int{7, 8}, []int{9, 8}, []int{9, 8}
	got, places, f := memory.Voted(a, b, c)
	wantFault(t, "others saved", f, api.OK)
	wantList(t, "others saved", got.Saved, []int{7, 8})
	wantList(t, "others saved", places, nil)
}

func TestVotedFaults(t *testing.T) {
	good, longer := bankOf(1, 2), bankOf(1, 2, 3)
	for _, c := range []struct {
		name    string
		a, b, c api.Bank
		want    api.Fault
	}{
		{"a longer", longer, good, good, api.ErrForm},
		{"b longer", good, longer, good, api.ErrForm},
		{"c longer", good, good, longer, api.ErrForm},
		{"a shorter", good, longer, longer, api.ErrForm},
		{"a before b", bankWith(-1), api.Bank{}, good, api.ErrRange},
		{"b before c", good, bankWith(-1), api.Bank{}, api.ErrRange},
		{"c before form", good, longer, bankWith(-1), api.ErrRange},
	} {
		got, places, f := memory.Voted(c.a, c.b, c.c)
		wantFault(t, c.name, f, c.want)
		wantBank(t, c.name, got, api.Bank{})
		wantList(t, c.name, places, nil)
	}
	wrongBanks(func(name string, b api.Bank, want api.Fault) {
		for at := range 3 {
			three := []api.Bank{good, good, good}
			three[at] = b
			_, _, f := memory.Voted(three[0], three[1], three[2])
			wantFault(t, name, f, want)
		}
	})
}

// TestVotedMendsOneBank: whatever became of one of three, the others have what it was.
func TestVotedMendsOneBank(t *testing.T) {
	r := rand.New(rand.NewSource(1))
	for range 200 {
		b := randomBank(r, 12)
		three := []api.Bank{b, b, b}
		other := api.Bank{Codes: slices.Clone(b.Codes), Saved: b.Saved}
		var want []int
		for i := range other.Codes {
			if r.Intn(3) == 0 {
				other.Codes[i] = r.Intn(api.MaxCode + 1)
			}
			if other.Codes[i] != b.Codes[i] {
				want = append(want, i)
			}
		}
		three[r.Intn(3)] = other
		got, places, f := memory.Voted(three[0], three[1], three[2])
		wantFault(t, "Voted", f, api.OK)
		wantBank(t, "Voted", got, b)
		wantList(t, "Voted", places, want)
	}
}
